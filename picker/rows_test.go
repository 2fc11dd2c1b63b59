package picker_test

import (
	"math"
	"math/rand"
	"slices"
	"testing"

	"torrent/api"
)

// some is a picker of a few pieces, some there and most ready.
func some(t *testing.T, r *rand.Rand) *watch {
	blocks := make([]int, r.Intn(8))
	for i := range blocks {
		blocks[i] = 1 + r.Intn(4)
	}
	x := begin(t, blocks, field(r, len(blocks), 8))
	for i := range blocks {
		if r.Intn(5) > 0 {
			x.ready(i)
		}
	}
	return x
}

// field is a bitfield of n bits, of which one in so many is set.
func field(r *rand.Rand, n, in int) []byte {
	b := make([]byte, (n+7)/8)
	for i := range n {
		if r.Intn(in) == 0 {
			b[i/8] |= 128 >> (i % 8)
		}
	}
	return b
}

// call makes some call.
func call(r *rand.Rand, x *watch, now int) {
	peer := []int{0, 1, 2, 3, 50, math.MaxInt, -1}[r.Intn(7)]
	piece := r.Intn(len(x.p.blocks)+2) - 1
	switch r.Intn(24) {
	case 0, 1:
		x.join(peer)
	case 2:
		if r.Intn(4) == 0 {
			x.leave(peer)
		}
	case 3, 4:
		x.field(peer, field(r, len(x.p.blocks)+r.Intn(2)*r.Intn(2)*r.Intn(9), 1+r.Intn(3))...)
	case 5:
		x.has(peer, piece)
	case 6:
		x.ready(piece)
	case 7:
		if r.Intn(3) == 0 {
			x.choked(peer)
		}
	case 8:
		x.expire(now + r.Intn(9) - 4)
	case 9:
		x.got(peer, piece, r.Intn(6)-1)
	case 10:
		if r.Intn(4) == 0 {
			x.checked(piece, r.Intn(6) == 0)
		}
	case 11, 12, 13, 14, 15, 16:
		if l := x.p.asked(peer); len(l) > 0 {
			b := l[r.Intn(len(l))]
			_, whole, _ := x.got(peer, b.Piece, b.Block)
			if whole && r.Intn(4) > 0 && !x.p.alone[b.Piece] {
				x.checked(b.Piece, r.Intn(8) == 0)
			}
		}
	default:
		x.pick(peer, now)
	}
}

// P16.1 to P16.13: rows of calls of all kinds against the picker of the chapter's words.
func TestRows(t *testing.T) {
	r := rand.New(rand.NewSource(1))
	alone, second, late := 0, 0, 0
	for range 1000 {
		x := some(t, r)
		now := r.Intn(100) - 50
		for range 300 {
			now += r.Intn(4) - 1
			was := len(x.p.asks)
			call(r, x, now)
			if slices.Contains(x.p.alone, true) {
				alone++
			}
			if len(x.p.whole) > 1 {
				second++
			}
			if len(x.p.asks) < was-1 {
				late++
			}
		}
	}
	if alone < 1000 || second < 1000 || late < 100 {
		t.Fatalf("the rows are too tame: %d, %d, %d", alone, second, late)
	}
}

// P16.9: rows with times of all sizes.
func TestRowsFarApart(t *testing.T) {
	r := rand.New(rand.NewSource(2))
	edges := []int{math.MinInt, math.MinInt + 7, math.MinInt + 8, -8, -1, 0, 7, 8, math.MaxInt - 8, math.MaxInt - 7, math.MaxInt}
	for range 100 {
		x := ready(t, 2, 2, 2, 2)
		crowd(x, 240, 240, 240)
		for range 60 {
			now := edges[r.Intn(len(edges))]
			if r.Intn(4) == 0 {
				x.expire(now)
			} else {
				x.pick(r.Intn(3), now)
			}
		}
	}
}

// P16.6, P16.11: many pieces, so that they fill several words of bits, and many peers.
func TestRowsWide(t *testing.T) {
	r := rand.New(rand.NewSource(3))
	for _, n := range []int{63, 64, 65, 130, 200} {
		blocks := make([]int, n)
		for i := range blocks {
			blocks[i] = 1 + r.Intn(2)
		}
		x := ready(t, blocks...)
		for peer := range 6 {
			x.join(peer)
			x.field(peer, field(r, n, 1+peer/2)...)
		}
		for now := range 700 {
			peer := r.Intn(6)
			if r.Intn(20) == 0 {
				x.field(peer, field(r, n, 1+r.Intn(3))...)
			}
			x.pick(peer, now)
			if l := x.p.asked(peer); len(l) > 0 && r.Intn(3) > 0 {
				b := l[r.Intn(len(l))]
				if _, whole, _ := x.got(peer, b.Piece, b.Block); whole {
					x.checked(b.Piece, r.Intn(4) > 0)
				}
			}
		}
	}
}

// P16.11: what is asked of a peer is told by rising pieces and blocks, whatever the order in which it was asked for.
func TestAskedRises(t *testing.T) {
	x := ready(t, 2, 2)
	crowd(x, 192, 64)
	x.asks(1, 0, 1, 0)
	x.asks(0, 0, 1, 1)
	x.asks(0, 0, 0, 0)
	x.asks(0, 0, 0, 1)
	x.asks(0, 0, 1, 0)
	want := []api.Block{{Piece: 0, Block: 0}, {Piece: 0, Block: 1}, {Piece: 1, Block: 0}, {Piece: 1, Block: 1}}
	if l, e := x.b.Asked(0); !slices.Equal(l, want) || e != api.OK {
		t.Fatalf("Asked(0) = %v, %d", l, e)
	}
}
