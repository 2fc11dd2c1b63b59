package exchange_test

import (
	"bytes"
	"math"
	"testing"

	"torrent/api"
	"torrent/exchange"
)

// P23.1, P0.8: the scale is looked at first, and no size helps a bad one.
func TestScaleFirst(t *testing.T) {
	text := some(150)
	for _, sc := range badScales {
		for _, n := range []int{150, 0, -1, 1048577, math.MaxInt, math.MinInt} {
			if got, e := exchange.Parts(sc, n); got != 0 || e != api.ErrScale {
				t.Errorf("P23.1, P0.8: Parts(%v, %d) = %d, %d", sc, n, got, e)
			}
		}
		for _, b := range [][]byte{text, nil, make([]byte, 1048577)} {
			for _, part := range []int{0, -1, 3, math.MaxInt} {
				if got, e := exchange.Part(sc, b, part); len(got) != 0 || e != api.ErrScale {
					t.Errorf("P23.2, P0.8: Part(%v, %d bytes, %d) = %v, %d", sc, len(b), part, got, e)
				}
			}
		}
		if f, e := exchange.New(sc, sum(own, text)); f != nil || e != api.ErrScale {
			t.Errorf("P23.3, P0.7: New(%v) = %v, %d", sc, f, e)
		}
	}
}

// P23.1: at every block, all around the ends of parts, and at both ends of the sizes.
func TestPartsCount(t *testing.T) {
	for block := 64; block <= 16384; block *= 2 {
		sc := api.Scale{Block: block, Width: 1 + block%31}
		for _, k := range []int{1, 2, 3, 7, 1048576/block - 1, 1048576 / block} {
			for _, c := range []struct{ size, want int }{{k*block - block + 1, k}, {k*block - 1, k}, {k * block, k}} {
				if n, e := exchange.Parts(sc, c.size); n != c.want || e != api.OK {
					t.Errorf("P23.1: Parts(%v, %d) = %d, %d, want %d", sc, c.size, n, e, c.want)
				}
			}
		}
		for _, size := range []int{0, -1, -block, 1048577, 1048576 + block, math.MaxInt, math.MaxInt - block, math.MinInt} {
			if n, e := exchange.Parts(sc, size); n != 0 || e != api.ErrPartSize {
				t.Errorf("P23.1: Parts(%v, %d) = %d, %d", sc, size, n, e)
			}
		}
	}
}

// P23.2: all parts, one behind the other, are the text; there is none ahead of them and none behind.
func TestPartsAreTheText(t *testing.T) {
	for _, c := range []struct{ block, size int }{{64, 1}, {64, 63}, {64, 64}, {64, 65}, {64, 128}, {64, 150}, {64, 8192}, {128, 129}, {256, 256}, {16384, 16383}, {16384, 16384}, {16384, 16385}, {16384, 1048575}, {16384, 1048576}, {64, 1048576}} {
		sc, text := api.Scale{Block: c.block, Width: 32}, some(c.size)
		n, e := exchange.Parts(sc, c.size)
		if e != api.OK {
			t.Fatalf("P23.1: Parts(%v, %d): %d", sc, c.size, e)
		}
		var all []byte
		for i := range n {
			p, e := exchange.Part(sc, text, i)
			if e != api.OK || len(p) != c.block && i < n-1 || len(p) == 0 || len(p) > c.block {
				t.Fatalf("P23.2: Part(%v, %d bytes, %d) has %d bytes, %d", sc, c.size, i, len(p), e)
			}
			all = append(all, p...)
		}
		if !bytes.Equal(all, text) {
			t.Errorf("P23.2: the parts of %d bytes at %v are another text, of %d bytes", c.size, sc, len(all))
		}
		for _, part := range []int{-1, n, n + 1, math.MaxInt, math.MinInt, math.MaxInt / c.block, math.MaxInt/c.block + 1, math.MinInt / c.block, 1 << 58} {
			if p, e := exchange.Part(sc, text, part); len(p) != 0 || e != api.ErrPartNone {
				t.Errorf("P23.2: Part(%v, %d bytes, %d) = %v, %d", sc, c.size, part, p, e)
			}
		}
	}
}

// P23.2: the size ahead of the part.
func TestPartSize(t *testing.T) {
	for _, b := range [][]byte{nil, {}, make([]byte, 1048577), make([]byte, 1<<21)} {
		for _, part := range []int{0, 1, -1, math.MaxInt} {
			if p, e := exchange.Part(own, b, part); len(p) != 0 || e != api.ErrPartSize {
				t.Errorf("P23.2: Part(%d bytes, %d) = %v, %d", len(b), part, p, e)
			}
		}
	}
}
