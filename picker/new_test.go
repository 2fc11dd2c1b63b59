package picker_test

import (
	"bytes"
	"math"
	"slices"
	"testing"

	"torrent/api"
	"torrent/picker"
)

// P16.1, P0.7: what no picker is made of, the numbers of blocks ahead of the bitfield.
func TestNewRefuses(t *testing.T) {
	many := func(n int) []int { return slices.Repeat([]int{1}, n) }
	for _, c := range []struct {
		blocks []int
		have   []byte
		want   api.Errno
	}{
		{[]int{0}, []byte{0}, api.ErrCount},
		{[]int{-1}, []byte{0}, api.ErrCount},
		{[]int{math.MinInt}, []byte{0}, api.ErrCount},
		{[]int{math.MaxInt}, []byte{0}, api.ErrCount},
		{[]int{api.MaxPieceBlocks + 1}, []byte{0}, api.ErrCount},
		{[]int{1, 1, 1, 0}, []byte{0}, api.ErrCount},
		{[]int{0}, nil, api.ErrCount},
		{[]int{1025}, []byte{255, 255}, api.ErrCount},
		{many(api.MaxPieces + 1), make([]byte, 8193), api.ErrCount},
		{many(api.MaxPieces + 1), nil, api.ErrCount},
		{many(api.MaxPieces), make([]byte, 8191), api.ErrBytes},
		{nil, []byte{0}, api.ErrBytes},
		{many(8), nil, api.ErrBytes},
		{many(8), []byte{0, 0}, api.ErrBytes},
		{many(9), []byte{255}, api.ErrBytes},
		{many(7), []byte{1}, api.ErrSpare},
		{many(9), []byte{0, 64}, api.ErrSpare},
	} {
		if p, e := picker.New(c.blocks, c.have); p != nil || e != c.want {
			t.Errorf("New(%d pieces, %d bytes) = %v, %d; want %d", len(c.blocks), len(c.have), p, e, c.want)
		}
	}
}

// P16.1: what a new picker has: the pieces that are there; none is ready or alone, nobody has joined.
func TestNewPicker(t *testing.T) {
	for _, c := range []struct {
		n    int
		have []byte
	}{{0, nil}, {1, []byte{128}}, {1, []byte{0}}, {7, []byte{84}}, {8, []byte{129}}, {9, []byte{255, 128}}, {20, []byte{1, 2, 48}}} {
		blocks := make([]int, c.n)
		for i := range blocks {
			blocks[i] = 1 + i%3
		}
		x := begin(t, blocks, c.have)
		if b := x.b.Bits(); !bytes.Equal(b, c.have) {
			t.Errorf("Bits = %v, want %v", b, c.have)
		}
		for _, peer := range []int{0, 1, -1, math.MaxInt} {
			wants(t, "Leave", x.leave(peer), api.ErrPeer)
		}
		wants(t, "Join", x.join(0), api.OK)
		full := bytes.Repeat([]byte{255}, len(c.have))
		if c.n%8 > 0 {
			full[c.n/8] = 255 << (8 - c.n%8)
		}
		wants(t, "Field", x.field(0, full...), api.OK)
		x.idle(0)
		if l := x.expire(math.MaxInt); len(l) != 0 {
			t.Errorf("Expire = %v", l)
		}
		for i := range blocks {
			if _, e := x.checked(i, false); e != api.ErrState {
				t.Errorf("Checked(%d, false) = %d", i, e)
			}
		}
	}
}

// P16.1, P16.6: as many pieces as there may be, with as many blocks; only what is asked for takes room.
func TestLargest(t *testing.T) {
	blocks := slices.Repeat([]int{api.MaxPieceBlocks}, api.MaxPieces)
	p, e := picker.New(blocks, make([]byte, api.MaxPieces/8))
	wants(t, "New", e, api.OK)
	wants(t, "Join", p.Join(3), api.OK)
	wants(t, "Field", p.Field(3, bytes.Repeat([]byte{255}, api.MaxPieces/8)), api.OK)
	wants(t, "Ready", p.Ready(api.MaxPieces-1), api.OK)
	for b := range api.MaxPieceBlocks {
		c, ok, e := p.Pick(3, b)
		if c != (api.Block{Piece: api.MaxPieces - 1, Block: b}) || !ok || e != api.OK {
			t.Fatalf("Pick = %v, %v, %d", c, ok, e)
		}
		if _, whole, e := p.Got(3, c.Piece, c.Block); whole != (b == api.MaxPieceBlocks-1) || e != api.OK {
			t.Fatalf("Got = %v, %d", whole, e)
		}
	}
	if l, e := p.Checked(api.MaxPieces-1, true); !slices.Equal(l, []int{3}) || e != api.OK {
		t.Fatalf("Checked = %v, %d", l, e)
	}
	if b := p.Bits(); len(b) != 8192 || b[8191] != 1 || bytes.Count(b, []byte{0}) != 8191 {
		t.Fatal("Bits has not just the last one")
	}
}

// P16.12: all of as many pieces as there may be are fetched from two peers that have them.
func TestManyPieces(t *testing.T) {
	p, e := picker.New(slices.Repeat([]int{1}, api.MaxPieces), make([]byte, api.MaxPieces/8))
	wants(t, "New", e, api.OK)
	all := bytes.Repeat([]byte{255}, api.MaxPieces/8)
	for peer := range 2 {
		wants(t, "Join", p.Join(peer), api.OK)
		wants(t, "Field", p.Field(peer, all), api.OK)
	}
	for i := range api.MaxPieces {
		wants(t, "Ready", p.Ready(i), api.OK)
	}
	for i := range api.MaxPieces {
		b, ok, e := p.Pick(i%2, i)
		if b != (api.Block{Piece: i}) || !ok || e != api.OK {
			t.Fatalf("Pick = %v, %v, %d; want the piece %d", b, ok, e, i)
		}
		if l, whole, e := p.Got(i%2, i, 0); len(l) != 0 || !whole || e != api.OK {
			t.Fatalf("Got = %v, %v, %d", l, whole, e)
		}
		if l, e := p.Checked(i, true); !slices.Equal(l, []int{i % 2}) || e != api.OK {
			t.Fatalf("Checked = %v, %d", l, e)
		}
	}
	if w, e := p.Wants(0); w || e != api.OK || !bytes.Equal(p.Bits(), all) {
		t.Fatalf("Wants = %v, %d", w, e)
	}
}
