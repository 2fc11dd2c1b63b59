package picker_test

import (
	"math/rand"
	"slices"
	"testing"

	"torrent/api"
)

// swarm is a picker with peers that give right blocks and wrong ones. A piece is good if all its blocks are right, as they were put together.
type swarm struct {
	*watch
	r      *rand.Rand
	common map[api.Block]bool // by block: it is right
	apart  map[api.Due]bool   // of pieces that are alone
	wrong  map[int]bool       // peers that gave a wrong block: of those that may be named alone
	banned map[int]bool
	again  int // blocks of pieces, each time that one turned out wrong
}

// gets takes a block of a peer's, and holds a piece that is whole against its hash.
func (s *swarm) gets(peer int, b api.Block, right bool) {
	s.t.Helper()
	alone := s.p.alone[b.Piece]
	_, whole, e := s.got(peer, b.Piece, b.Block)
	wants(s.t, "Got", e, api.OK)
	if !right {
		s.wrong[peer] = true
	}
	if alone {
		s.apart[api.Due{Peer: peer, Piece: b.Piece, Block: b.Block}] = right
	} else {
		s.common[b] = right
	}
	if whole {
		s.holds(b.Piece, peer, alone)
	}
}

// holds holds a piece against its hash, and bans who gave a wrong one alone.
func (s *swarm) holds(piece, peer int, alone bool) {
	s.t.Helper()
	good := true
	for b := range s.p.blocks[piece] {
		if alone {
			good = good && s.apart[api.Due{Peer: peer, Piece: piece, Block: b}]
		} else {
			good = good && s.common[api.Block{Piece: piece, Block: b}]
		}
	}
	who, e := s.checked(piece, good)
	wants(s.t, "Checked", e, api.OK)
	if good {
		return
	}
	s.again += s.p.blocks[piece]
	if alone && !slices.Equal(who, []int{peer}) {
		s.t.Fatalf("a wrong piece of the peer %d alone names %v", peer, who)
	}
	if len(who) == 1 {
		if !s.wrong[who[0]] {
			s.t.Fatalf("%d is named, and gave nothing wrong", who[0])
		}
		s.banned[who[0]] = true
		s.leave(who[0])
	} else if now, _ := s.b.Alone(piece); !now {
		s.t.Fatal("a piece that was wrong by several is not alone")
	}
}

// others lets a peer that is not honest do something.
func (s *swarm) others(peer, now int) {
	s.t.Helper()
	switch s.r.Intn(12) {
	case 0, 1:
		if !s.banned[peer] {
			s.join(peer)
		}
	case 2:
		s.field(peer, field(s.r, len(s.p.blocks), 1+s.r.Intn(2))...)
	case 3:
		if s.r.Intn(4) == 0 {
			s.leave(peer)
		}
	case 4:
		if s.r.Intn(4) == 0 {
			s.choked(peer)
		}
	case 5, 6, 7:
		if l := s.p.asked(peer); len(l) > 0 {
			s.gets(peer, l[s.r.Intn(len(l))], s.r.Intn(3) == 0)
		}
	default:
		s.pick(peer, now)
	}
}

// P16.12, P16.13: a peer that has all pieces and gives right blocks brings every piece that is ready, whatever others do; it is asked no more often than the chapter says, and nobody who gave only what is right is ever named alone.
func TestHonest(t *testing.T) {
	r := rand.New(rand.NewSource(4))
	const honest = 50
	turned := 0
	for range 300 {
		s := &swarm{watch: some(t, r), r: r, common: map[api.Block]bool{}, apart: map[api.Due]bool{}, wrong: map[int]bool{}, banned: map[int]bool{}}
		for now := range r.Intn(200) {
			s.others(r.Intn(12), now)
		}
		missing, asks, before := 0, 0, s.again
		for i, n := range s.p.blocks {
			for b := range n {
				if !s.p.there[i] && (s.p.alone[i] || !s.p.come[api.Block{Piece: i, Block: b}]) {
					missing++
				}
			}
		}
		s.join(honest)
		s.field(honest, whole(len(s.p.blocks))...)
		for round := 0; ; round++ {
			for range r.Intn(20) {
				s.others(r.Intn(12), round)
			}
			for _, ok := s.pick(honest, round); ok; _, ok = s.pick(honest, round) {
				asks++
			}
			l := s.p.asked(honest)
			for range r.Intn(20) {
				s.others(r.Intn(12), round)
			}
			if len(l) == 0 && done(s.p) {
				break
			}
			for _, b := range l {
				if r.Intn(3) == 0 && slices.Contains(s.p.asked(honest), b) {
					s.gets(honest, b, true)
				}
			}
			if asks > missing+s.again-before {
				t.Fatalf("%d asks for %d blocks that were missing, and %d that turned out wrong", asks, missing, s.again-before)
			}
			if round > 1000 {
				t.Fatal("it does not end")
			}
		}
		turned += s.again
	}
	if turned < 1000 {
		t.Fatalf("only %d blocks turned out wrong", turned)
	}
}

// whole is the bitfield of n bits that are all set.
func whole(n int) []byte { return field(rand.New(rand.NewSource(0)), n, 1) }

// done tells whether all pieces that are ready are there.
func done(p *plain) bool {
	for i := range p.blocks {
		if p.ready[i] && !p.there[i] {
			return false
		}
	}
	return true
}

// P16.13: one who gave a single right block of a wrong piece is not named alone, neither when the others have left nor when it comes again under its number.
func TestMixedIsNobodys(t *testing.T) {
	x := ready(t, 3)
	crowd(x, 128, 128)
	x.asks(0, 0, 0, 0)
	x.gives(0, 0, 0, false)
	for b := 1; b < 3; b++ {
		x.asks(1, 0, 0, b)
		x.gives(1, 0, b, b == 2)
	}
	x.leave(0)
	x.leave(1)
	x.join(1)
	x.finds(0, false, 0, 1)
	x.has(1, 0)
	x.join(0)
	x.has(0, 0)
	for b := range 3 {
		x.asks(0, 0, 0, b)
		x.asks(1, 0, 0, b)
	}
	x.gives(0, 0, 0, false)
	for b := range 3 {
		x.gives(1, 0, b, b == 2)
	}
	x.finds(0, false, 1)
	x.gives(0, 0, 1, false)
	x.gives(0, 0, 2, true)
	x.finds(0, true, 0)
}
