package engine_test

import (
	"slices"
	"testing"

	"torrent/api"
	"torrent/disk"
	"torrent/session"
	"torrent/store"
)

// The two ends of the wire.
const (
	taker = 0
	giver = 1
)

// plain plays moves as the chapter's words have them, one at a time.
type plain struct {
	t      *testing.T
	x      *torrent
	text   []byte // the taker's
	d      *disk.Disk
	shares bool
	ends   [2]*session.Session
	queue  [2][]byte // what waits for each end
	laid   bool
	old    []api.Answer
	acts   []api.Act // of the taker, in the step that is under way
	all    [][]api.Act
	cuts   [2]int // how often which end closed the wire
	refuse int    // how often the taker would not have it laid
}

// plainRun is a run that has begun.
func plainRun(t *testing.T, x *torrent, text []byte, sectors int) *plain {
	p := &plain{t: t, x: x, text: text, d: empty(t, sectors)}
	p.begin()
	p.next()
	return p
}

// plainShare is a share that has begun.
func plainShare(t *testing.T, x *torrent, bare bool) *plain {
	p := &plain{t: t, x: x, text: x.text, d: empty(t, x.need()), shares: true}
	if bare {
		p.text = x.bare()
	}
	g := empty(t, x.need())
	var list []api.Piece
	for i := range x.pieces {
		list = append(list, x.piece(i))
	}
	s, e := store.Open(x.sc, g, x.info, list)
	wants(t, "store.Open", e, api.OK)
	for i, b := range x.pieces {
		for k, c := range slices.Collect(slices.Chunk(b, x.sc.Block)) {
			wants(t, "store.Put", s.Put(i, k*x.sc.Block, c), api.OK)
		}
		wants(t, "store.Finish", s.Finish(i), api.OK)
	}
	s.Sync()
	p.ends[giver], _, e = session.New(x.sc, x.text, x.info, number(), g)
	wants(t, "session.New", e, api.OK)
	p.begin()
	p.lay()
	p.next()
	return p
}

func number() [20]byte { return [20]byte([]byte("torrent-000000000000")) }

// begin lets the taker's session start.
func (p *plain) begin() {
	p.t.Helper()
	s, acts, e := session.New(p.x.sc, p.text, p.x.info, number(), p.d)
	if e != api.OK {
		p.t.Fatalf("the session doesn't start: %d", e)
	}
	p.ends[taker] = s
	p.did(taker, acts)
}

// next closes the step.
func (p *plain) next() []api.Act {
	l := p.acts
	p.all = append(p.all, l)
	p.acts = nil
	return l
}

// did is what follows from a single call of one of the two sessions.
func (p *plain) did(who int, acts []api.Act) {
	if who == taker {
		p.acts = append(p.acts, acts...)
	}
	if !p.shares {
		return
	}
	closes := slices.ContainsFunc(acts, func(a api.Act) bool {
		return a.Peer == 0 && (a.Kind == api.ActDrop || a.Kind == api.ActBan)
	})
	if !closes {
		for _, a := range acts {
			if a.Peer == 0 && a.Kind == api.ActSend {
				p.queue[1-who] = append(p.queue[1-who], a.Data...)
			}
		}
		return
	}
	p.cuts[who]++
	p.laid = false
	p.did(1-who, p.ends[1-who].Leave(0))
	p.queue = [2][]byte{}
}

// lay lays the wire.
func (p *plain) lay() {
	p.queue = [2][]byte{}
	p.laid = true
	p.did(taker, p.ends[taker].Join(0))
	if !p.laid {
		p.refuse++
		return
	}
	p.did(giver, p.ends[giver].Join(0))
}

// carry lets the wire carry.
func (p *plain) carry() {
	if b := p.queue[giver]; len(b) > 0 {
		p.queue[giver] = nil
		p.did(giver, p.ends[giver].Bytes(0, b))
	}
	if b := p.queue[taker]; len(b) > 0 {
		p.queue[taker] = nil
		p.did(taker, p.ends[taker].Bytes(0, b))
	}
}

func (p *plain) tick() {
	if p.shares && !p.laid {
		p.lay()
	}
	p.did(taker, p.ends[taker].Tick())
	if p.shares {
		p.did(giver, p.ends[giver].Tick())
	}
}

func (p *plain) crash(m api.Move) {
	if p.shares {
		p.did(giver, p.ends[giver].Leave(0))
		p.queue = [2][]byte{}
	}
	p.old = append(p.old, p.ends[taker].Answers()...)
	keep := []bool{}
	for i := range p.d.Pending() {
		keep = append(keep, i < len(m.Keep) && m.Keep[i])
	}
	torn, cut := m.Torn, m.Cut
	if torn < 0 || torn >= len(keep) || cut < 0 || cut > 64 {
		torn, cut = -1, 0
	}
	wants(p.t, "Crash", p.d.Crash(keep, torn, cut), api.OK)
	p.begin()
	if p.shares {
		p.lay()
	}
}

// move plays a move, and answers the taker's acts.
func (p *plain) move(m api.Move) []api.Act {
	p.t.Helper()
	switch s := p.ends[taker]; m.Kind {
	case api.MoveJoin:
		p.did(taker, s.Join(m.Peer))
	case api.MoveBytes:
		p.did(taker, s.Bytes(m.Peer, m.Data))
	case api.MoveLeave:
		p.did(taker, s.Leave(m.Peer))
	case api.MoveTick:
		p.tick()
	case api.MoveSync:
		s.Sync()
	case api.MoveCrash:
		p.crash(m)
	case api.MoveFuse:
		p.d.Fuse(m.Cut)
	case api.MoveWire:
		p.carry()
	}
	return p.next()
}

// complete tells whether all files are.
func (p *plain) complete() bool {
	for i := range p.x.files {
		if _, e := p.ends[taker].File(i); e != api.OK {
			return false
		}
	}
	return true
}

// calm plays the rounds behind the moves, and tells how many there were.
func (p *plain) calm() int {
	limit := 8*3*9 + 2*p.x.blocks() + 2*len(p.x.pieces) + 16
	for n := range limit {
		if p.complete() {
			return n
		}
		p.tick()
		for hops := 0; hops < 64 && len(p.queue[taker])+len(p.queue[giver]) > 0; hops++ {
			p.carry()
		}
		p.next()
	}
	return limit
}

// report is what there is to tell in the end.
func (p *plain) report() api.Report {
	s := p.ends[taker]
	r := api.Report{Acts: p.all, Have: s.Have(), Answers: slices.Concat(p.old, s.Answers())}
	for i := range p.x.files {
		b, e := s.File(i)
		r.Done = append(r.Done, e == api.OK)
		r.Files = append(r.Files, b)
	}
	return r
}

// same fails the test unless a report is the plain one.
func (p *plain) same(what string, r api.Report, e api.Errno) {
	p.t.Helper()
	wants(p.t, what, e, api.OK)
	want := p.report()
	if sameReport(r, want) {
		return
	}
	for i := range min(len(r.Acts), len(want.Acts)) {
		acts(p.t, what, r.Acts[i], want.Acts[i])
	}
	p.t.Fatalf("%s: start %d, %d elements, have %v, done %v, %d answers\nwanted %d elements, have %v, done %v, %d answers", what,
		r.Start, len(r.Acts), r.Have, r.Done, len(r.Answers), len(want.Acts), want.Have, want.Done, len(want.Answers))
}

// piece is what a store must know of a piece.
func (x *torrent) piece(i int) api.Piece {
	first := 0
	for k, b := range x.files {
		n := (len(b) + x.pieceLen - 1) / x.pieceLen
		if i >= first+n {
			first += n
			continue
		}
		p := api.Piece{Len: len(x.pieces[i]), Known: true, Leaves: 1, Hash: x.m.Files[k].Root}
		if n == 1 {
			for p.Leaves*x.sc.Block < p.Len {
				p.Leaves *= 2
			}
			return p
		}
		p.Leaves = x.pieceLen / x.sc.Block
		for _, l := range x.m.Layers {
			if l.Root == x.m.Files[k].Root {
				p.Hash = l.Hashes[i-first]
			}
		}
		return p
	}
	panic("no such piece")
}
