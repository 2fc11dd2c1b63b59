package tree_test

import (
	"fmt"
	"math"
	"math/rand"
	"slices"
	"testing"

	"torrent/api"
	"torrent/tree"
)

// P6.1: all small numbers, each power of two with its neighbours, and the numbers below 1.
func TestHeight(t *testing.T) {
	for n := 1; n <= 5000; n++ {
		if h, e := tree.Height(n); h != log(n) || e != api.OK {
			t.Fatalf("Height(%d) = %d, %d", n, h, e)
		}
	}
	for k := 2; k < 63; k++ {
		below, e := tree.Height(1<<k - 1)
		at, f := tree.Height(1 << k)
		beyond, g := tree.Height(1<<k + 1)
		if below != k || at != k || beyond != k+1 || e != api.OK || f != api.OK || g != api.OK {
			t.Errorf("Height about 2^%d: %d, %d, %d", k, below, at, beyond)
		}
	}
	if h, e := tree.Height(math.MaxInt); h != 63 || e != api.OK {
		t.Errorf("Height of the greatest int = %d, %d", h, e)
	}
	for _, n := range []int{0, -1, -2, -4, -5000, -1 << 40, math.MinInt + 1, math.MinInt} {
		if h, e := tree.Height(n); h != 0 || e != api.ErrCount {
			t.Errorf("Height(%d) = %d, %d", n, h, e)
		}
	}
}

// P6.2: each height at each scale, and the heights that are not.
func TestZero(t *testing.T) {
	all := append(slices.Clone(scales), api.Scale{Block: 16384, Width: 32}, api.Scale{Block: 1024, Width: 5})
	for _, sc := range all {
		for h := range 49 {
			x, e := tree.Zero(sc, h)
			isHash(t, fmt.Sprint("Zero ", sc, h), x, e, blank(sc, h))
		}
		for _, h := range append([]int{-1, -2, -48, 49, 50, 64, 100}, ends...) {
			x, e := tree.Zero(sc, h)
			noHash(t, fmt.Sprint("Zero ", sc, h), x, e, api.ErrLevel)
		}
	}
	for _, sc := range wrongs {
		for _, h := range []int{0, 1, 48, 49, -1} {
			x, e := tree.Zero(sc, h)
			noHash(t, fmt.Sprint("Zero ", sc, h), x, e, api.ErrScale)
		}
	}
	if x, _ := tree.Zero(api.Scale{Block: 64, Width: 1}, 1); x != (api.Hash{0xf5}) {
		t.Errorf("Zero(1) at the width 1 is %x", x)
	}
}

// P6.3: any two hashes, each as it stands and each in its place.
func TestPair(t *testing.T) {
	r := rand.New(rand.NewSource(3))
	for _, sc := range scales {
		row := append(hashes(r, 12), api.Hash{}, api.Hash{1}, api.Hash{31: 1})
		for _, x := range row {
			for _, y := range row {
				h, e := tree.Pair(sc, x, y)
				isHash(t, fmt.Sprint("Pair ", sc), h, e, two(sc, x, y))
			}
		}
	}
	for _, sc := range wrongs {
		h, e := tree.Pair(sc, api.Hash{1}, api.Hash{2})
		noHash(t, fmt.Sprint("Pair ", sc), h, e, api.ErrScale)
	}
}

// checkLayer holds Layer and Root of a row against its tree written out, at all heights from two below it to two above it.
func checkLayer(t *testing.T, sc api.Scale, row []api.Hash, from int) {
	t.Helper()
	k := log(len(row))
	good := from >= 0 && from+k <= 48
	var all [][]api.Hash
	if good {
		all = grown(sc, row, from, 0)
	}
	for to := from - 2; to <= from+k+2; to++ {
		call := fmt.Sprintf("Layer(%v, %d hashes, %d, %d)", sc, len(row), from, to)
		got, e := tree.Layer(sc, row, from, to)
		if !good || to < from || to > from+k {
			noRow(t, call, got, e, api.ErrLevel)
			continue
		}
		at, run := all[to-from], 1<<(to-from)
		n := (len(row) + run - 1) / run
		isRow(t, call, got, e, at[:n])
		if behind := at[n:]; !slices.Equal(behind, slices.Repeat([]api.Hash{blank(sc, to)}, len(behind))) {
			t.Errorf("%s: a node behind the layer is not the hash of nothing", call)
		}
	}
	call := fmt.Sprintf("Root(%v, %d hashes, %d)", sc, len(row), from)
	h, e := tree.Root(sc, row, from)
	if !good {
		noHash(t, call, h, e, api.ErrLevel)
		return
	}
	isHash(t, call, h, e, all[k][0])
}

// P6.5, P6.6: rows of each length up to 34 at each height about the least and the greatest, and of longer ones.
func TestLayer(t *testing.T) {
	r := rand.New(rand.NewSource(5))
	for _, sc := range scales {
		for n := 1; n <= 34; n++ {
			row := hashes(r, n)
			for _, from := range []int{-2, -1, 0, 1, 2, 3, 17, 42, 43, 44, 45, 46, 47, 48, 49, 50} {
				checkLayer(t, sc, row, from)
			}
		}
		for _, n := range []int{63, 64, 65, 127, 128, 129, 1000, 1025, 4095, 4096, 4097} {
			for _, from := range []int{0, 5, 48 - log(n), 49 - log(n)} {
				checkLayer(t, sc, hashes(r, n), from)
			}
		}
	}
}

// P6.5, P6.6: a row of hashes of nothing is no other row; the layers of one of the lowest height are the hashes of nothing.
func TestLayerOfNothing(t *testing.T) {
	for n := 1; n <= 20; n++ {
		checkLayer(t, own, make([]api.Hash, n), 0)
		checkLayer(t, own, make([]api.Hash, n), 4)
		h, e := tree.Root(own, make([]api.Hash, n), 0)
		isHash(t, "Root of zero leaves", h, e, blank(own, log(n)))
	}
}

// P6.5, P6.6, P0.1: numbers at the ends of the ints; P0.2: an error comes ahead of those that are named behind it.
func TestLayerWrong(t *testing.T) {
	r := rand.New(rand.NewSource(6))
	for _, n := range []int{1, 2, 5} {
		row := hashes(r, n)
		for _, x := range ends {
			for _, y := range append([]int{-1, 0, 1, 48, 49}, ends...) {
				for _, z := range [][2]int{{x, y}, {y, x}} {
					got, e := tree.Layer(own, row, z[0], z[1])
					noRow(t, fmt.Sprint("Layer ", z), got, e, api.ErrLevel)
				}
			}
			h, e := tree.Root(own, row, x)
			noHash(t, fmt.Sprint("Root ", x), h, e, api.ErrLevel)
		}
	}
	many := make([]api.Hash, api.MaxNodes+1)
	for _, from := range append([]int{-1, 0, 28, 29, 48, 49}, ends...) {
		for _, to := range []int{from, 0, -1} {
			for _, none := range [][]api.Hash{nil, {}} {
				got, e := tree.Layer(own, none, from, to)
				noRow(t, "Layer of no row", got, e, api.ErrEmpty)
				h, e := tree.Root(own, none, from)
				noHash(t, "Root of no row", h, e, api.ErrEmpty)
			}
			got, e := tree.Layer(own, many, from, to)
			noRow(t, "Layer of a long row", got, e, api.ErrMany)
			h, e := tree.Root(own, many, from)
			noHash(t, "Root of a long row", h, e, api.ErrMany)
			for _, sc := range wrongs {
				for _, row := range [][]api.Hash{nil, many, many[:3]} {
					got, e = tree.Layer(sc, row, from, to)
					noRow(t, "Layer at a wrong scale", got, e, api.ErrScale)
					h, e = tree.Root(sc, row, from)
					noHash(t, "Root at a wrong scale", h, e, api.ErrScale)
				}
			}
		}
	}
}

// P6.5, P6.6: rows as long as they may be, and one hash shorter, at the greatest height that they may have and one beyond it.
func TestLayerLimit(t *testing.T) {
	t.Parallel()
	r := rand.New(rand.NewSource(7))
	row := hashes(r, api.MaxNodes)
	for _, n := range []int{api.MaxNodes, api.MaxNodes - 1} {
		t.Run(fmt.Sprint(n), func(t *testing.T) {
			t.Parallel()
			all := grown(own, row[:n], 28, 0)
			for _, to := range []int{28, 29, 38, 48} {
				got, e := tree.Layer(own, row[:n], 28, to)
				isRow(t, fmt.Sprint("Layer to ", to), got, e, all[to-28][:min(n, 1<<(48-to))])
			}
			h, e := tree.Root(own, row[:n], 28)
			isHash(t, "Root", h, e, all[20][0])
			got, e := tree.Layer(own, row[:n], 28, 49)
			noRow(t, "Layer to 49", got, e, api.ErrLevel)
			got, e = tree.Layer(own, row[:n], 29, 29)
			noRow(t, "Layer from 29", got, e, api.ErrLevel)
			h, e = tree.Root(own, row[:n], 29)
			noHash(t, "Root from 29", h, e, api.ErrLevel)
		})
	}
}

// P6.7: the layer of a layer, for each layer of rows of each length.
func TestLayerOfLayer(t *testing.T) {
	r := rand.New(rand.NewSource(8))
	for _, sc := range scales {
		for _, n := range []int{1, 2, 3, 4, 5, 6, 7, 8, 9, 11, 16, 17, 31, 33, 100} {
			for _, f := range []int{0, 3, 48 - log(n)} {
				base := hashes(r, n)
				h, _ := tree.Height(n)
				root, _ := tree.Root(sc, base, f)
				for to := f; to <= f+h; to++ {
					row, _ := tree.Layer(sc, base, f, to)
					for u := to; u <= f+h; u++ {
						want, _ := tree.Layer(sc, base, f, u)
						got, e := tree.Layer(sc, row, to, u)
						isRow(t, fmt.Sprint("Layer of a layer: ", n, f, to, u), got, e, want)
					}
					got, e := tree.Root(sc, row, to)
					isHash(t, fmt.Sprint("Root of a layer: ", n, f, to), got, e, root)
				}
			}
		}
	}
}

// P6.8: the tree parts in the middle.
func TestMiddle(t *testing.T) {
	r := rand.New(rand.NewSource(9))
	for _, sc := range scales {
		for n := 2; n <= 130; n++ {
			for _, f := range []int{0, 1, 6} {
				base := hashes(r, n)
				k, _ := tree.Height(n)
				half := 1 << k / 2
				others := slices.Clone(base[half:])
				zero, _ := tree.Zero(sc, f)
				for len(others) < half {
					others = append(others, zero)
				}
				left, _ := tree.Root(sc, base[:half], f)
				right, _ := tree.Root(sc, others, f)
				want, _ := tree.Pair(sc, left, right)
				got, e := tree.Root(sc, base, f)
				isHash(t, fmt.Sprint("Root ", n, f), got, e, want)
			}
		}
	}
}

// P6.1 to P6.6: the examples that the chapter writes out.
func TestRowExamples(t *testing.T) {
	p := func(l, r api.Hash) api.Hash { return two(own, l, r) }
	z0, z1, z2 := blank(own, 0), blank(own, 1), blank(own, 2)
	row := hashes(rand.New(rand.NewSource(1)), 5)
	a, b, c, d, e := row[0], row[1], row[2], row[3], row[4]
	for _, x := range []struct {
		n, from, to int
		want        []api.Hash
	}{
		{3, 0, 0, row[:3]}, {3, 0, 1, []api.Hash{p(a, b), p(c, z0)}}, {3, 0, 2, []api.Hash{p(p(a, b), p(c, z0))}}, {3, 2, 3, []api.Hash{p(a, b), p(c, z2)}},
		{5, 0, 2, []api.Hash{p(p(a, b), p(c, d)), p(p(e, z0), z1)}}, {5, 0, 1, []api.Hash{p(a, b), p(c, d), p(e, z0)}},
	} {
		got, err := tree.Layer(own, row[:x.n], x.from, x.to)
		isRow(t, fmt.Sprint("Layer ", x.n, x.from, x.to), got, err, x.want)
	}
	got, err := tree.Layer(own, row[:3], 0, 3)
	noRow(t, "Layer to 3", got, err, api.ErrLevel)
	for _, x := range []struct {
		n, from int
		want    api.Hash
	}{{1, 5, a}, {1, 48, a}, {3, 0, p(p(a, b), p(c, z0))}} {
		got, err := tree.Root(own, row[:x.n], x.from)
		isHash(t, fmt.Sprint("Root ", x.n, x.from), got, err, x.want)
	}
	h, err := tree.Root(own, row[:2], 48)
	noHash(t, "Root of two at 48", h, err, api.ErrLevel)
}
