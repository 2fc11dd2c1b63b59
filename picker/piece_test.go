package picker_test

import (
	"math"
	"testing"

	"torrent/api"
)

// P16.7: the errors, in their order; with each the picker is as it was.
func TestGotRefuses(t *testing.T) {
	x := one(t)
	for _, c := range []struct {
		peer, piece, block int
		want               api.Errno
	}{
		{6, -1, -1, api.ErrPeer},
		{-1, 0, 0, api.ErrPeer},
		{math.MaxInt, 3, 0, api.ErrPeer},
		{5, -1, -1, api.ErrPiece},
		{5, 3, 0, api.ErrPiece},
		{5, math.MinInt, 0, api.ErrPiece},
		{5, math.MaxInt, math.MaxInt, api.ErrPiece},
		{5, 0, -1, api.ErrBlock},
		{5, 0, 2, api.ErrBlock},
		{5, 2, 1, api.ErrBlock},
		{5, 2, math.MinInt, api.ErrBlock},
		{7, 2, math.MaxInt, api.ErrBlock},
		{5, 1, 1, api.ErrUnasked},
		{7, 0, 0, api.ErrUnasked},
		{7, 2, 0, api.ErrUnasked},
	} {
		l, whole, e := x.got(c.peer, c.piece, c.block)
		if e != c.want || whole || len(l) != 0 {
			t.Errorf("Got(%d, %d, %d) = %v, %v, %d; want %d", c.peer, c.piece, c.block, l, whole, e, c.want)
		}
	}
	x.gives(5, 2, 0, true)
	_, _, e := x.got(5, 2, 0)
	wants(t, "Got a second time", e, api.ErrUnasked)
	x.finds(2, true, 5)
	_, _, e = x.got(5, 2, 0)
	wants(t, "Got of what is there", e, api.ErrUnasked)
}

// P16.7: a block of a common piece is taken back from all others that are asked for it, rising, and from nobody else.
func TestOthersAreTold(t *testing.T) {
	x := ready(t, 2, 1)
	for _, peer := range []int{30, 2, math.MaxInt, 11, 0} {
		x.join(peer)
		x.field(peer, 192)
	}
	for _, peer := range []int{30, 2, math.MaxInt, 11, 0} {
		for range 3 {
			if _, ok := x.pick(peer, 0); !ok {
				t.Fatalf("nothing for the peer %d", peer)
			}
		}
	}
	x.gives(11, 0, 1, false, 0, 2, 30, math.MaxInt)
	x.leave(2)
	x.choked(30)
	x.gives(0, 0, 0, true, 11, math.MaxInt)
	x.finds(0, false, 0, 11)
	x.gives(math.MaxInt, 1, 0, true, 0, 11)
}

// P16.7: of a piece that is alone nobody else is told, and it is whole by whom gave all of it.
func TestGotAlone(t *testing.T) {
	x := ready(t, 2)
	crowd(x, 128, 128, 128)
	lonely(x, 0, 0, 1)
	for peer := range 3 {
		x.asks(peer, 0, 0, 0)
		x.asks(peer, 0, 0, 1)
	}
	x.gives(0, 0, 0, false)
	x.gives(1, 0, 1, false)
	x.gives(2, 0, 1, false)
	x.gives(2, 0, 0, true)
	x.gives(0, 0, 1, true)
	x.gives(1, 0, 0, true)
	x.finds(0, true, 1)
}

// P16.10: the errors, in their order.
func TestCheckedRefuses(t *testing.T) {
	x := ready(t, 2, 1, 2)
	crowd(x, 224, 224)
	refuses := func(piece int, good bool, want api.Errno) {
		t.Helper()
		if l, e := x.checked(piece, good); len(l) != 0 || e != want {
			t.Fatalf("Checked(%d, %v) = %v, %d; want %d", piece, good, l, e, want)
		}
	}
	for _, piece := range []int{-1, 3, math.MinInt, math.MaxInt} {
		refuses(piece, true, api.ErrPiece)
		refuses(piece, false, api.ErrPiece)
	}
	refuses(0, false, api.ErrState)
	x.asks(0, 0, 0, 0)
	refuses(0, false, api.ErrState)
	x.gives(0, 0, 0, false)
	refuses(0, false, api.ErrState)
	x.finds(1, true)
	refuses(1, true, api.ErrState)
	refuses(1, false, api.ErrState)
	lonely(x, 2, 0, 1)
	refuses(2, false, api.ErrState)
	x.field(1, 32)
	x.asks(1, 0, 2, 0)
	x.gives(1, 2, 0, false)
	refuses(2, false, api.ErrState)
	x.asks(1, 0, 2, 1)
	x.gives(1, 2, 1, true)
	x.finds(2, false, 1)
	refuses(2, false, api.ErrState)
	x.finds(2, true)
	refuses(2, true, api.ErrState)
	refuses(2, false, api.ErrState)
}

// P16.10: a common piece that is good is there, whole or not: its givers are told, and nobody is asked for it.
func TestCommonGood(t *testing.T) {
	x := ready(t, 3, 1)
	for _, peer := range []int{40, 3} {
		x.join(peer)
		x.field(peer, 192)
	}
	x.asks(40, 0, 0, 0)
	x.gives(40, 0, 0, false)
	x.asks(3, 0, 0, 1)
	x.gives(3, 0, 1, false)
	x.leave(40)
	x.join(40)
	x.has(40, 0)
	x.asks(3, 0, 0, 2)
	x.asks(40, 0, 0, 2)
	x.asks(3, 0, 1, 0)
	x.finds(0, true, 3, 40)
	for _, peer := range []int{3, 40} {
		_, _, e := x.got(peer, 0, 2)
		wants(t, "Got of what is there", e, api.ErrUnasked)
	}
	x.idle(40)
	if l, _ := x.b.Asked(3); len(l) != 1 {
		t.Fatalf("Asked(3) = %v", l)
	}
	if l := x.expire(8); len(l) != 1 || l[0].Piece != 1 {
		t.Fatalf("Expire = %v", l)
	}
}

// P16.10: a piece that nobody is ready for, or has, may be found there as well.
func TestFoundElsewhere(t *testing.T) {
	x := begin(t, []int{2, 1}, []byte{0})
	x.finds(1, true)
	x.join(0)
	x.field(0, 192)
	x.ready(1)
	x.ready(0)
	x.asks(0, 0, 0, 0)
	x.asks(0, 0, 0, 1)
	x.idle(0)
}

// P16.10: a common piece that is wrong and has one giver begins anew, and is common.
func TestOneGiver(t *testing.T) {
	x := ready(t, 2, 2)
	crowd(x, 192, 192)
	for range 3 {
		for b := range 2 {
			x.asks(0, 0, 0, b)
		}
		for b := range 2 {
			x.gives(0, 0, b, b == 1)
		}
		x.finds(0, false, 0)
		if a, e := x.b.Alone(0); a || e != api.OK {
			t.Fatalf("Alone = %v, %d", a, e)
		}
	}
	// The giver of the wrong ones is none of its givers any more.
	for b := range 2 {
		x.asks(1, 0, 0, b)
		x.gives(1, 0, b, b == 1)
	}
	x.finds(0, true, 1)
}

// P16.10: a piece that is alone and wrong names the peer by which it became whole last, and then the one ahead of it; what others gave stays.
func TestAloneWrong(t *testing.T) {
	x := ready(t, 2)
	crowd(x, 128, 128, 128, 128, 128)
	lonely(x, 0, 3, 1)
	for peer := range 5 {
		x.asks(peer, 0, 0, 0)
		x.asks(peer, 0, 0, 1)
	}
	for _, peer := range []int{2, 0, 4, 1} {
		x.gives(peer, 0, 0, false)
		x.gives(peer, 0, 1, true)
	}
	x.gives(3, 0, 1, false)
	x.finds(0, false, 1)
	x.leave(0)
	x.finds(0, false, 4)
	x.asks(1, 0, 0, 0)
	x.asks(1, 0, 0, 1)
	x.gives(1, 0, 1, false)
	x.finds(0, false, 2)
	_, e := x.checked(0, false)
	wants(t, "Checked of what is whole by nobody", e, api.ErrState)
	x.gives(1, 0, 0, true)
	x.gives(3, 0, 0, true)
	x.finds(0, true, 3)
	if a, e := x.b.Alone(0); a || e != api.OK {
		t.Fatalf("Alone = %v, %d", a, e)
	}
}

// P16.10: a piece that is alone and good is there, also when it is whole by nobody: all that is asked and given is forgotten.
func TestAloneGood(t *testing.T) {
	x := ready(t, 2, 1)
	crowd(x, 128, 192)
	lonely(x, 0, 0, 1)
	x.asks(0, 0, 0, 0)
	x.gives(0, 0, 0, false)
	x.asks(0, 0, 0, 1)
	x.has(1, 0)
	x.asks(1, 0, 1, 0)
	x.asks(1, 0, 0, 0)
	x.finds(0, true)
	_, _, e := x.got(0, 0, 1)
	wants(t, "Got of what is there", e, api.ErrUnasked)
	x.idle(0)
	if l := x.expire(100); len(l) != 1 || l[0].Piece != 1 {
		t.Fatalf("Expire = %v", l)
	}
}
