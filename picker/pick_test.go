package picker_test

import (
	"math"
	"testing"

	"torrent/api"
)

// crowd lets the peers join, each with its bitfield.
func crowd(x *watch, fields ...byte) {
	for peer, f := range fields {
		x.join(peer)
		x.field(peer, f)
	}
}

// P16.6: of pieces that nobody has begun the rarest, of several the lowest; only such as the peer has, that are ready and not there.
func TestRarestFirst(t *testing.T) {
	x := begin(t, []int{1, 1, 1, 1, 1, 1, 1}, []byte{8}) // 4 is there
	for _, i := range []int{0, 1, 2, 4, 5, 6} {          // 3 is not ready
		x.ready(i)
	}
	crowd(x, 0b01111110, 0b11100010, 0b11001010, 0)
	x.asks(0, 0, 5, 0)
	x.asks(0, 0, 2, 0)
	x.asks(0, 0, 1, 0)
	x.asks(1, 0, 0, 0)
	x.asks(1, 0, 6, 0)
}

// P16.6: rarity follows what peers have at the time: Has, Field, Leave.
func TestRarityChanges(t *testing.T) {
	x := ready(t, 1, 1, 1, 1)
	crowd(x, 240, 240, 240)
	x.field(1, 128)
	x.asks(0, 0, 1, 0)
	x.has(1, 2)
	x.asks(0, 0, 3, 0)
	x.field(2, 0)
	x.leave(1)
	x.join(1)
	x.has(1, 0)
	x.asks(0, 0, 2, 0)
}

// P16.6: a piece that has begun goes ahead of a rarer one, be it that a block has come or that one is asked of somebody.
func TestBegunFirst(t *testing.T) {
	x := ready(t, 2, 3, 2, 1)
	crowd(x, 240, 96, 64)
	x.asks(2, 0, 1, 0)
	x.asks(0, 0, 1, 1) // asked of 2, and the commonest of all
	x.gives(2, 1, 0, false)
	x.choked(0)
	x.asks(1, 0, 1, 1) // a block has come
	x.asks(0, 0, 1, 2)
	x.asks(0, 0, 0, 0) // nothing is fresh in what has begun: the rarest
	x.choked(0)
	x.asks(1, 0, 1, 2)
	x.asks(1, 0, 2, 0)
	x.choked(1) // 2 has begun no longer, nobody is asked for it
	x.asks(0, 0, 1, 1)
	x.asks(0, 0, 1, 2)
	x.asks(0, 0, 0, 0)
}

// P16.6: of several pieces that have begun the rarest goes first, then the lowest.
func TestRarestOfBegun(t *testing.T) {
	x := ready(t, 2, 2, 2, 2)
	crowd(x, 240, 128, 64, 32, 16, 144)
	for i := range 4 {
		x.asks(i+1, 0, i, 0)
	}
	x.asks(0, 0, 1, 1)
	x.asks(0, 0, 2, 1)
	x.asks(0, 0, 0, 1)
	x.asks(0, 0, 3, 1)
	x.idle(0)
}

// P16.6: the lowest block that is fresh, also when a higher one has come or is asked for.
func TestLowestBlock(t *testing.T) {
	x := ready(t, 6)
	crowd(x, 128, 128)
	for b := range 4 {
		x.asks(0, b, 0, b)
	}
	x.gives(0, 0, 2, false)
	x.asks(1, 9, 0, 4)
	x.expire(11)
	x.asks(1, 9, 0, 0)
	x.asks(0, 9, 0, 1)
	x.asks(1, 9, 0, 3)
	x.asks(1, 9, 0, 5)
	x.idle(1)
}

// P16.6: no more than Depth asks at a time, whatever they are for; one more when one is done with.
func TestDepth(t *testing.T) {
	x := ready(t, 3, 3, 3)
	crowd(x, 224, 224)
	for range api.Depth {
		if _, ok := x.pick(0, 0); !ok {
			t.Fatal("fewer than Depth")
		}
	}
	x.idle(0)
	x.field(0, 32)
	x.idle(0)
	x.gives(0, 0, 1, false)
	x.asks(0, 0, 2, 0)
	x.idle(0)
	x.finds(0, true, 0) // two of its asks are forgotten with it
	x.asks(0, 0, 2, 1)
	x.asks(0, 0, 2, 2)
	x.idle(0)
}

// P16.6: when nothing is fresh, what others are asked for: the lowest piece, however rare others are, and its lowest block that the peer is not asked for.
func TestEndgame(t *testing.T) {
	x := ready(t, 2, 1, 1)
	crowd(x, 224, 192, 192, 128, 64)
	x.asks(0, 0, 2, 0)
	x.asks(0, 0, 0, 0)
	x.asks(0, 0, 0, 1)
	x.asks(0, 0, 1, 0)
	x.asks(1, 0, 0, 0)
	x.asks(1, 0, 0, 1)
	x.asks(1, 0, 1, 0)
	x.idle(1)
	x.asks(2, 0, 0, 0)
	x.gives(1, 0, 0, false, 0, 2)
	x.asks(2, 0, 0, 1) // what has come is not asked for again
	x.asks(2, 0, 1, 0)
	x.asks(4, 0, 1, 0) // only what it has
	x.asks(3, 0, 0, 1)
	x.gives(4, 1, 0, true, 0, 1, 2)
	x.idle(4) // whole: nothing is to be asked for, though it is not there
	x.gives(3, 0, 1, true, 0, 1, 2)
	x.idle(0)
}

// P16.6: the endgame has no block of a piece that is alone, and what is fresh for a peer in such a one goes ahead of it.
func TestEndgameAndAlone(t *testing.T) {
	x := ready(t, 1, 2, 1)
	crowd(x, 224, 224)
	lonely(x, 1, 0, 1)
	x.asks(0, 0, 0, 0)
	x.asks(0, 0, 1, 0)
	x.asks(0, 0, 1, 1)
	x.asks(0, 0, 2, 0)
	x.asks(1, 0, 1, 0)
	x.asks(1, 0, 1, 1)
	x.asks(1, 0, 0, 0)
	x.asks(1, 0, 2, 0)
	for _, peer := range []int{0, 1} {
		for b := range 2 {
			x.gives(peer, 1, b, b == 1)
		}
	}
	x.idle(0)
	x.idle(1)
}

// lonely makes a piece of two blocks alone, of which two peers give one each. Other pieces are out of sight meanwhile.
func lonely(x *watch, piece, a, b int) {
	x.t.Helper()
	was := [2][]bool{}
	for i, peer := range []int{a, b} {
		was[i] = append(was[i], x.p.has[peer]...)
		x.field(peer, 128>>piece)
	}
	x.asks(a, 0, piece, 0)
	x.gives(a, piece, 0, false)
	x.asks(b, 0, piece, 1)
	x.gives(b, piece, 1, true)
	x.finds(piece, false, min(a, b), max(a, b))
	for i, peer := range []int{a, b} {
		for k, has := range was[i] {
			if has {
				x.has(peer, k)
			}
		}
	}
}

// P16.6: a piece that is alone has begun for one peer, and not for another; among those that have begun, and among the others, it is chosen like the rest.
func TestAloneBegun(t *testing.T) {
	x := ready(t, 2, 2, 2, 2)
	crowd(x, 240, 240, 64, 112)
	lonely(x, 2, 0, 1)
	x.asks(0, 0, 0, 0) // nothing has begun for 0: the rarest
	x.choked(0)
	x.asks(3, 0, 2, 0) // of 2 and 3 the lower one
	x.asks(3, 0, 2, 1)
	x.asks(3, 0, 3, 0)
	x.asks(0, 0, 3, 1) // 3 has begun; that 2 has for another peer, does not count for 0
	x.asks(0, 0, 0, 0)
	x.asks(0, 0, 0, 1)
	x.asks(0, 0, 2, 0)
	x.gives(0, 0, 0, false)
	x.asks(0, 0, 2, 1) // begun by what is asked
	x.gives(0, 2, 1, false)
	x.choked(0)
	x.asks(1, 0, 0, 1)
	x.asks(0, 0, 2, 0) // begun by what is given, and as rare as 3, which is higher
	x.asks(0, 0, 3, 1)
}

// P16.6: each peer is asked for each block of a piece that is alone, whatever others are asked for or gave.
func TestAloneIsFreshForAll(t *testing.T) {
	x := ready(t, 2)
	crowd(x, 128, 128, 128)
	lonely(x, 0, 0, 2)
	for b := range 2 {
		for peer := range 3 {
			x.asks(peer, 0, 0, b)
		}
	}
	x.gives(1, 0, 1, false)
	x.idle(0)
	x.idle(1)
}

// P16.6: a stranger picks nothing, and no time is wrong.
func TestPickTimes(t *testing.T) {
	x := ready(t, 4)
	for _, peer := range []int{0, -1, math.MinInt, math.MaxInt} {
		b, ok, e := x.b.Pick(peer, 0)
		if wants(t, "Pick", e, api.ErrPeer); ok || b != (api.Block{}) {
			t.Fatalf("Pick(%d) = %v, %v", peer, b, ok)
		}
	}
	crowd(x, 128)
	for b, now := range []int{math.MinInt, -1, 0, math.MaxInt} {
		x.asks(0, now, 0, b)
	}
}
