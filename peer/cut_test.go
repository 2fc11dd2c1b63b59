package peer_test

import (
	"math/rand"
	"slices"
	"testing"

	"torrent/api"
	"torrent/peer"
)

// fresh is a connection for pieces of 130 and 64 bytes.
func fresh(t *testing.T) *peer.Peer {
	t.Helper()
	p, e := peer.New(sc, info, []int{130, 64})
	if e != api.OK {
		t.Fatal(e)
	}
	return p
}

// feedAll feeds a stream that is cut at these places: its events, its first error.
func feedAll(p *peer.Peer, b []byte, cuts ...int) ([]api.Event, api.Errno) {
	var all []api.Event
	why := api.OK
	at := 0
	for _, cut := range append(cuts, len(b)) {
		l, e := p.Feed(b[at:cut])
		all = append(all, l...)
		if why == api.OK {
			why = e
		}
		at = cut
	}
	return all, why
}

// streams are streams that end well and such that do not, at each of their parts.
func streams() [][]byte {
	good := append(shake(), wire(all()...)...)
	l := [][]byte{good, good[:50], good[:70], good[:len(good)-1], append([]byte{18}, good...), append(slices.Clone(good[:19]), 0, 1, 2)}
	other := slices.Clone(good)
	other[30]++
	l = append(l, other)
	for _, c := range wrong {
		l = append(l, slices.Concat(good, c.b, wire(unchoke)), slices.Concat(good[:68], c.b, c.b))
	}
	return l
}

// P17.7: a stream that is cut at any place, and at any two places, says the same.
func TestCuts(t *testing.T) {
	for _, b := range streams() {
		if len(b) > 2000 {
			b = b[:2000]
		}
		p := fresh(t)
		want, why := feedAll(p, b)
		state := p.State()
		holds := func(cuts ...int) {
			t.Helper()
			q := fresh(t)
			l, e := feedAll(q, b, cuts...)
			if e != why || !sameEvents(l, want) || !sameState(q.State(), state) {
				t.Fatalf("cut at %v: %s, %d, %+v; want %s, %d, %+v", cuts, brief(l), e, q.State(), brief(want), why, state)
			}
		}
		for i := range len(b) + 1 {
			holds(i)
		}
		for i := 0; i <= len(b); i += 23 {
			for j := i; j <= len(b); j += 11 {
				holds(i, j)
			}
		}
		var each []int
		for i := range b {
			each = append(each, i)
		}
		holds(each...)
	}
}

// P17.7: long frames, cut by the same number of bytes each time.
func TestLongCuts(t *testing.T) {
	big := api.Scale{Block: 16384, Width: 32}
	r := rand.New(rand.NewSource(1))
	data := make([]byte, 16384)
	r.Read(data)
	ms := []api.Msg{{Kind: api.MsgPiece, Index: 0, Begin: 16384, Data: data}, other(99, make([]byte, 32767)...), hashes(api.MsgHashes, make([]api.Hash, 560)...), {Kind: api.MsgPiece, Index: 1, Begin: 0, Data: data[:77]}}
	b := append(shake(), wire(ms...)...)
	for _, n := range []int{1, 3, 68, 1000, 16384, 32768, 40000, len(b)} {
		p, _ := peer.New(big, info, []int{1 << 15, 77})
		var l []api.Event
		for part := range slices.Chunk(b, n) {
			events, e := p.Feed(part)
			if e != api.OK {
				t.Fatal(n, e)
			}
			l = append(l, events...)
		}
		if want := append([]api.Event{{Hello: true, Peer: name}}, eventsOf(ms)...); !sameEvents(l, want) {
			t.Fatalf("by %d: %s", n, brief(l))
		}
	}
}

// P0.1: a peer that says that it has each of many pieces, and then says it again and again.
func TestManyHaves(t *testing.T) {
	p, e := peer.New(sc, info, slices.Repeat([]int{1}, 65536))
	if e != api.OK {
		t.Fatal(e)
	}
	b := shake()
	for i := range 65536 {
		b = append(b, 0, 0, 0, 5, 4, 0, 0, byte(i>>8), byte(i))
	}
	if l, e := p.Feed(b); len(l) != 65537 || e != api.OK {
		t.Fatalf("%d events, %d", len(l), e)
	}
	if has := p.State().Has; !slices.Equal(has, slices.Repeat([]byte{255}, 8192)) {
		t.Fatal("not all are had")
	}
	for range 4 {
		if l, e := p.Feed(b[68:]); len(l) != 65536 || e != api.OK {
			t.Fatalf("%d events, %d", len(l), e)
		}
	}
}
