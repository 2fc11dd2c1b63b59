package peer_test

import (
	"bytes"
	"math"
	"slices"
	"testing"

	"torrent/api"
	"torrent/peer"
)

// made fails the test unless New answers this error.
func made(t *testing.T, sc api.Scale, lens []int, want api.Errno) {
	t.Helper()
	if p, e := peer.New(sc, info, lens); e != want || (p == nil) != (want != api.OK) {
		t.Errorf("New(%v, %d pieces) = %d; want %d", sc, len(lens), e, want)
	}
}

// P17.1: the scale is looked at first, and each good one is taken.
func TestScales(t *testing.T) {
	for _, sc := range []api.Scale{{}, {Block: 64}, {Width: 32}, {Block: 63, Width: 32}, {Block: 96, Width: 32}, {Block: 32768, Width: 32}, {Block: -64, Width: 32}, {Block: 64, Width: 33}, {Block: 64, Width: -1}} {
		made(t, sc, nil, api.ErrScale)
		made(t, sc, []int{1}, api.ErrScale)
		made(t, sc, []int{-1}, api.ErrScale)
		made(t, sc, make([]int, 65537), api.ErrScale)
	}
	for b := 64; b <= 16384; b *= 2 {
		for _, w := range []int{1, 20, 32} {
			made(t, api.Scale{Block: b, Width: w}, []int{1, b}, api.OK)
		}
	}
}

// P17.1: the lengths of the pieces at their limits, at each place.
func TestLengths(t *testing.T) {
	for b := 64; b <= 16384; b *= 2 {
		sc := api.Scale{Block: b, Width: 32}
		for place := range 5 {
			for n, want := range map[int]api.Errno{math.MinInt: api.ErrArg, -1: api.ErrArg, 0: api.ErrArg, 1: api.OK, b: api.OK, b + 1: api.OK, 1024*b - 1: api.OK, 1024 * b: api.OK, 1024*b + 1: api.ErrArg, math.MaxInt: api.ErrArg} {
				lens := []int{5, 5, 5, 5, 5}
				lens[place] = n
				made(t, sc, lens, want)
			}
		}
	}
}

// P17.1: the number of pieces at its limits.
func TestManyPieces(t *testing.T) {
	made(t, sc, nil, api.OK)
	made(t, sc, []int{}, api.OK)
	for n, want := range map[int]api.Errno{1: api.OK, 65535: api.OK, 65536: api.OK, 65537: api.ErrArg, 100000: api.ErrArg} {
		made(t, sc, slices.Repeat([]int{1}, n), want)
		if want != api.OK {
			continue
		}
		p, _ := peer.New(sc, info, slices.Repeat([]int{1}, n))
		if s := p.State(); !bytes.Equal(s.Has, make([]byte, (n+7)/8)) {
			t.Errorf("%d pieces: Has has %d bytes", n, len(s.Has))
		}
	}
}

// P17.1, P17.6: the first state.
func TestFirstState(t *testing.T) {
	for n := range 20 {
		x := begin(t, slices.Repeat([]int{100}, n)...)
		s := x.b.State()
		if s.Shaken || s.Gone || s.Why != api.OK || !s.AmChoking || s.AmInterested || !s.Choking || s.Interested || !bytes.Equal(s.Has, make([]byte, (n+7)/8)) {
			t.Errorf("%d pieces: %+v", n, s)
		}
	}
}

// P17.1: of a torrent without pieces all goes on but what names a piece.
func TestNoPieces(t *testing.T) {
	x := met(t)
	x.takes(alive, field(), interested, unchoke, hashes(api.MsgHashRequest), other(80, 1))
	for _, m := range []api.Msg{field(), alive, unchoke, interested, hashes(api.MsgHashReject)} {
		x.says(m, api.OK)
	}
	for _, m := range []api.Msg{have(0), request(0, 0, 1), cancel(0, 0, 1), block(0, 0, 1)} {
		x.says(m, api.ErrPeerSay)
		met(t).refuses(api.ErrPeerIndex, unchoke, m)
	}
	met(t).refuses(api.ErrPeerField, field(0))
	y := met(t)
	y.says(field(0), api.ErrPeerSay)
	y.says(field(), api.OK)
}

// P17.2: our handshake, at any time, with nothing changed by it.
func TestGreet(t *testing.T) {
	x := begin(t, 130, 64)
	greets := func() {
		t.Helper()
		for _, me := range [][20]byte{{}, {1}, {19: 1}, name} {
			want := slices.Concat([]byte(sign), []byte{0, 0, 0, 0, 0, 0, 0, 16}, info[:20], me[:])
			if b := x.b.Greet(me); !bytes.Equal(b, want) {
				t.Errorf("Greet = %v; want %v", b, want)
			}
			x.look()
		}
	}
	greets()
	x.hears(api.OK, shake()[:67])
	greets()
	x.hears(api.OK, shake()[67:], api.Event{Hello: true, Peer: name})
	greets()
	x.says(field(128), api.OK)
	x.takes(field(64), unchoke)
	greets()
	x.hears(api.OK, []byte{0, 0, 128})
	greets()
	x.hears(api.ErrFrame, []byte{1})
	greets()
	x.gone(api.ErrFrame)
	greets()
}
