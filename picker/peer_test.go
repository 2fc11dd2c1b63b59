package picker_test

import (
	"math"
	"slices"
	"testing"

	"torrent/api"
)

// P16.2: who may join, and who may leave.
func TestJoin(t *testing.T) {
	x := ready(t, 1, 2)
	for _, peer := range []int{-1, -2, math.MinInt} {
		wants(t, "Join below 0", x.join(peer), api.ErrPeer)
		wants(t, "Leave below 0", x.leave(peer), api.ErrPeer)
	}
	for _, peer := range []int{0, 1, 900, math.MaxInt} {
		wants(t, "Join", x.join(peer), api.OK)
		wants(t, "Field", x.field(peer, 192), api.OK)
		wants(t, "Join again", x.join(peer), api.ErrPeer)
	}
	for n, peer := range []int{900, math.MaxInt, 0, 1} {
		wants(t, "Leave", x.leave(peer), api.OK)
		wants(t, "Leave again", x.leave(peer), api.ErrPeer)
		if r, e := x.b.Rare(0); r != 3-n || e != api.OK {
			t.Fatalf("Rare(0) = %d, %d", r, e)
		}
	}
	wants(t, "Join again", x.join(900), api.OK)
	if w, e := x.b.Wants(900); w || e != api.OK {
		t.Fatalf("Wants of one that has nothing = %v, %d", w, e)
	}
	x.idle(900)
}

// P16.2: what a peer that has left gave of a common piece stays, and so does its number among the givers.
func TestGiversStay(t *testing.T) {
	x := ready(t, 2)
	for _, peer := range []int{9, 4} {
		x.join(peer)
		x.has(peer, 0)
	}
	x.asks(9, 0, 0, 0)
	x.gives(9, 0, 0, false)
	x.leave(9)
	x.asks(4, 0, 0, 1)
	x.gives(4, 0, 1, true)
	x.finds(0, false, 4, 9)

	// Alone now: what 4 gives is gone when it has left, and it is no answer any more.
	x.asks(4, 0, 0, 0)
	x.asks(4, 0, 0, 1)
	x.gives(4, 0, 0, false)
	x.gives(4, 0, 1, true)
	x.leave(4)
	_, e := x.checked(0, false)
	wants(t, "Checked of what is whole by nobody", e, api.ErrState)
	x.join(4)
	x.has(4, 0)
	x.asks(4, 0, 0, 0)
	x.gives(4, 0, 0, false)
	x.asks(4, 0, 0, 1)
	x.gives(4, 0, 1, true)
	x.finds(0, false, 4)
}

// P16.2: one that comes again under its number is the same giver.
func TestSameNumber(t *testing.T) {
	x := ready(t, 2)
	for b := range 2 {
		x.join(6)
		x.has(6, 0)
		x.asks(6, 0, 0, b)
		x.gives(6, 0, b, b == 1)
		x.leave(6)
	}
	x.finds(0, false, 6)
	if a, _ := x.b.Alone(0); a {
		t.Fatal("a piece of one giver is alone")
	}
}

// P16.3: Field tells all, Has one more; neither touches an ask, and what does not fit changes nothing.
func TestField(t *testing.T) {
	x := ready(t, 1, 1, 1, 1, 1, 1, 1, 1, 1)
	wants(t, "Field of a stranger", x.field(1), api.ErrPeer)
	wants(t, "Has of a stranger", x.has(1, -1), api.ErrPeer)
	x.join(1)
	wants(t, "Field", x.field(1, 160, 128), api.OK)
	for _, has := range [][]byte{nil, {255}, {0, 0, 0}} {
		wants(t, "Field of another length", x.field(1, has...), api.ErrBytes)
	}
	wants(t, "Field with a spare bit", x.field(1, 0, 192), api.ErrSpare)
	for _, i := range []int{-1, 9, math.MinInt, math.MaxInt} {
		wants(t, "Has", x.has(1, i), api.ErrPiece)
	}
	x.asks(1, 0, 0, 0)
	x.asks(1, 0, 2, 0)
	wants(t, "Field", x.field(1, 64, 0), api.OK)
	x.asks(1, 0, 1, 0)
	x.idle(1)
	x.gives(1, 2, 0, true)
	wants(t, "Has", x.has(1, 8), api.OK)
	wants(t, "Has again", x.has(1, 8), api.OK)
	if r, e := x.b.Rare(8); r != 1 || e != api.OK {
		t.Fatalf("Rare(8) = %d, %d", r, e)
	}
	x.asks(1, 0, 8, 0)
	wants(t, "Field of nothing", x.field(1, 0, 0), api.OK)
	x.idle(1)
	if l, _ := x.b.Asked(1); len(l) != 3 {
		t.Fatalf("Asked(1) = %v", l)
	}
}

// P16.4: a piece is asked for only when it is ready.
func TestReady(t *testing.T) {
	x := begin(t, []int{1, 1, 2}, []byte{128})
	x.join(0)
	x.field(0, 224)
	x.idle(0)
	for _, i := range []int{-1, 3, math.MinInt, math.MaxInt} {
		wants(t, "Ready", x.ready(i), api.ErrPiece)
	}
	wants(t, "Ready of what is there", x.ready(0), api.OK)
	x.idle(0)
	wants(t, "Ready", x.ready(2), api.OK)
	wants(t, "Ready again", x.ready(2), api.OK)
	x.asks(0, 0, 2, 0)
	x.asks(0, 0, 2, 1)
	wants(t, "Ready of what is asked for", x.ready(2), api.OK)
	x.idle(0)
	x.ready(1)
	x.asks(0, 0, 1, 0)
}

// P16.5: a peer is wanted for what is not there, ready or not.
func TestWants(t *testing.T) {
	x := begin(t, []int{1, 1, 1}, []byte{128})
	x.join(0)
	is := func(want bool) {
		t.Helper()
		if w, e := x.b.Wants(0); w != want || e != api.OK {
			t.Fatalf("Wants = %v, %d; want %v", w, e, want)
		}
	}
	is(false)
	x.has(0, 0)
	is(false)
	x.has(0, 2)
	is(true)
	x.finds(2, true)
	is(false)
	x.has(0, 1)
	x.ready(1)
	x.asks(0, 0, 1, 0)
	x.gives(0, 1, 0, true)
	is(true)
	x.finds(1, true, 0)
	is(false)
}

// P16.8: one that chokes is asked for nothing any more; others are.
func TestChoked(t *testing.T) {
	x := one(t)
	x.asks(7, 0, 1, 1)
	for _, peer := range []int{-1, 6, math.MaxInt} {
		wants(t, "Choked", x.choked(peer), api.ErrPeer)
	}
	wants(t, "Choked", x.choked(5), api.OK)
	wants(t, "Choked again", x.choked(5), api.OK)
	_, _, e := x.got(5, 2, 0)
	wants(t, "Got of what is forgotten", e, api.ErrUnasked)
	if l, _ := x.b.Asked(7); !slices.Equal(l, []api.Block{{Piece: 1, Block: 1}}) {
		t.Fatalf("Asked(7) = %v", l)
	}
	x.asks(5, 0, 1, 0)
	x.asks(7, 0, 0, 0)
}

// P16.9: what was asked Patience ago or longer, by rising peers, pieces and blocks; the time need not rise.
func TestExpire(t *testing.T) {
	x := ready(t, 3, 2)
	for _, peer := range []int{30, 4, math.MaxInt} {
		x.join(peer)
		x.field(peer, 192)
	}
	x.has(4, 1)
	x.asks(30, 10, 0, 0)
	x.asks(4, 12, 0, 1)
	x.asks(math.MaxInt, 11, 0, 2)
	x.asks(30, 3, 1, 0)
	x.asks(4, 10, 1, 1)
	x.asks(4, 10, 0, 0)
	for _, now := range []int{10, 0, -5, math.MinInt} {
		if l := x.expire(now); len(l) != 0 {
			t.Fatalf("Expire(%d) = %v", now, l)
		}
	}
	is := func(now int, want ...api.Due) {
		t.Helper()
		if l := x.expire(now); !slices.Equal(l, want) {
			t.Fatalf("Expire(%d) = %v; want %v", now, l, want)
		}
	}
	is(11, api.Due{Peer: 30, Piece: 1, Block: 0})
	is(11)
	is(18, api.Due{Peer: 4, Piece: 0, Block: 0}, api.Due{Peer: 4, Piece: 1, Block: 1}, api.Due{Peer: 30, Piece: 0, Block: 0})
	_, _, e := x.got(4, 0, 0)
	wants(t, "Got of what is late", e, api.ErrUnasked)
	x.asks(30, 18, 0, 0)
	is(20, api.Due{Peer: 4, Piece: 0, Block: 1}, api.Due{Peer: math.MaxInt, Piece: 0, Block: 2})
}

// P16.9: times that are farther apart than the greatest number.
func TestFarApart(t *testing.T) {
	for _, c := range []struct {
		since, now int
		late       bool
	}{
		{math.MinInt, math.MaxInt, true},
		{math.MaxInt, math.MinInt, false},
		{math.MinInt, math.MinInt, false},
		{math.MinInt, math.MinInt + 7, false},
		{math.MinInt, math.MinInt + 8, true},
		{math.MaxInt - 8, math.MaxInt, true},
		{math.MaxInt - 7, math.MaxInt, false},
		{math.MinInt, 0, true},
		{-1, math.MaxInt, true},
		{1, math.MinInt, false},
		{math.MaxInt, -2, false},
		{-4, 4, true},
		{-4, 3, false},
		{4, -4, false},
	} {
		x := ready(t, 1)
		x.join(0)
		x.has(0, 0)
		x.asks(0, c.since, 0, 0)
		if l := x.expire(c.now); (len(l) == 1) != c.late {
			t.Errorf("asked at %d: Expire(%d) = %v", c.since, c.now, l)
		}
	}
}
