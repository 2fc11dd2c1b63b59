package tree_test

import (
	"fmt"
	"math/rand"
	"slices"
	"testing"

	"torrent/api"
	"torrent/tree"
)

// lengths are numbers of bytes about the ends of blocks and pieces, at a scale.
func lengths(sc api.Scale, blocks int) []int {
	all := []int{0, 1, 2, sc.Block / 2}
	for i := 1; i <= blocks; i++ {
		all = append(all, i*sc.Block-1, i*sc.Block, i*sc.Block+1, i*sc.Block+sc.Block/3)
	}
	return all
}

// checkFile holds each call that is told bytes alone against the trees written out.
func checkFile(t *testing.T, sc api.Scale, data []byte) {
	t.Helper()
	call := fmt.Sprintf(" of %d bytes at %v", len(data), sc)
	row, e := tree.Leaves(sc, data)
	isRow(t, "Leaves"+call, row, e, leaves(sc, data))
	root, e := tree.FileRoot(sc, data)
	if len(data) == 0 {
		noHash(t, "FileRoot"+call, root, e, api.ErrEmpty)
		return
	}
	isHash(t, "FileRoot"+call, root, e, top(sc, leaves(sc, data), 0, 0))
	again, e := tree.Root(sc, row, 0)
	isHash(t, "Root over the leaves"+call, again, e, root)
}

// P6.4, P6.9: contents of each length about the ends of their blocks, at several scales.
func TestFile(t *testing.T) {
	r := rand.New(rand.NewSource(4))
	for _, sc := range append(slices.Clone(scales), api.Scale{Block: 16384, Width: 32}, api.Scale{Block: 512, Width: 7}) {
		for _, n := range lengths(sc, 9) {
			checkFile(t, sc, content(r, n))
			checkFile(t, sc, make([]byte, n))
		}
	}
	for n := range 700 {
		checkFile(t, own, content(r, n))
	}
	for _, sc := range wrongs {
		for _, data := range [][]byte{nil, {}, {1}, make([]byte, 64<<20+1)} {
			row, e := tree.Leaves(sc, data)
			noRow(t, fmt.Sprint("Leaves ", sc), row, e, api.ErrScale)
			root, e := tree.FileRoot(sc, data)
			noHash(t, fmt.Sprint("FileRoot ", sc), root, e, api.ErrScale)
		}
	}
}

// P6.4, P6.9: as many blocks as there may be, the last one whole or not, and one fewer.
func TestFileLimit(t *testing.T) {
	t.Parallel()
	data := content(rand.New(rand.NewSource(10)), 64<<20)
	for _, cut := range []int{0, 1, 64} {
		t.Run(fmt.Sprint(cut), func(t *testing.T) {
			t.Parallel()
			data := data[:len(data)-cut]
			want := leaves(own, data)
			row, e := tree.Leaves(own, data)
			isRow(t, "Leaves", row, e, want)
			root, e := tree.FileRoot(own, data)
			isHash(t, "FileRoot", root, e, top(own, want, 0, 0))
		})
	}
}

// P6.10, P6.11, P6.13: as many blocks as there may be.
func TestPieceLimit(t *testing.T) {
	t.Parallel()
	data := content(rand.New(rand.NewSource(17)), 64<<20)
	all := grown(own, leaves(own, data), 0, 0)
	root, e := tree.PieceRoot(own, data, api.MaxNodes)
	isHash(t, "PieceRoot", root, e, all[20][0])
	row, e := tree.PieceLayer(own, 1024*64, data)
	isRow(t, "PieceLayer", row, e, all[10])
	root, e = tree.LayerRoot(own, 1024*64, len(data), row)
	isHash(t, "LayerRoot", root, e, all[20][0])
	root, e = tree.PieceRoot(own, data, api.MaxNodes/2)
	noHash(t, "PieceRoot of half as many leaves", root, e, api.ErrFit)
}

// P6.4, P6.9, P6.11: one byte more than there may be, at scales of several blocks; ErrPer is ahead of it, and PieceRoot has ErrFit for it.
func TestFileMany(t *testing.T) {
	for _, sc := range []api.Scale{own, {Block: 128, Width: 1}, {Block: 256, Width: 32}} {
		for _, more := range []int{1, sc.Block, 1 << 20} {
			data := make([]byte, api.MaxNodes*sc.Block+more)
			row, e := tree.Leaves(sc, data)
			noRow(t, "Leaves", row, e, api.ErrMany)
			root, e := tree.FileRoot(sc, data)
			noHash(t, "FileRoot", root, e, api.ErrMany)
			for _, per := range []int{1, 2, 1024} {
				row, e = tree.PieceLayer(sc, per*sc.Block, data)
				noRow(t, "PieceLayer", row, e, api.ErrMany)
			}
			row, e = tree.PieceLayer(sc, 3*sc.Block, data)
			noRow(t, "PieceLayer of a wrong length", row, e, api.ErrPer)
			root, e = tree.PieceRoot(sc, data, api.MaxNodes)
			noHash(t, "PieceRoot", root, e, api.ErrFit)
			root, e = tree.PieceRoot(sc, data, 2*api.MaxNodes)
			noHash(t, "PieceRoot of too many leaves", root, e, api.ErrPer)
		}
	}
}

// P6.10: each number of leaves up to 70, right or not, for contents about the ends of their blocks.
func TestPieceRoot(t *testing.T) {
	r := rand.New(rand.NewSource(11))
	for _, sc := range scales {
		for _, n := range lengths(sc, 17) {
			data := content(r, n)
			for count := -3; count <= 70; count++ {
				call := fmt.Sprintf("PieceRoot(%v, %d bytes, %d)", sc, n, count)
				root, e := tree.PieceRoot(sc, data, count)
				switch {
				case count < 1 || 1<<log(count) != count:
					noHash(t, call, root, e, api.ErrPer)
				case n == 0:
					noHash(t, call, root, e, api.ErrEmpty)
				case len(parts(data, sc.Block)) > count:
					noHash(t, call, root, e, api.ErrFit)
				default:
					isHash(t, call, root, e, top(sc, leaves(sc, data), 0, log(count)))
				}
			}
		}
	}
}

// P6.10: numbers of leaves up to the limit, about it and far from it.
func TestPieceRootLeaves(t *testing.T) {
	data := content(rand.New(rand.NewSource(12)), 130)
	for k := 2; k <= 20; k++ {
		root, e := tree.PieceRoot(own, data, 1<<k)
		want := top(own, leaves(own, data), 0, 2)
		for h := 2; h < k; h++ {
			want = two(own, want, blank(own, h))
		}
		isHash(t, fmt.Sprint("PieceRoot of the height ", k), root, e, want)
	}
	for _, count := range append([]int{-4, 0, 3, 1<<20 - 1, 1<<20 + 1, 3 << 18, 1 << 21, 1 << 40, 1<<63 - 1}, ends...) {
		for _, data := range [][]byte{nil, {}, data} {
			root, e := tree.PieceRoot(own, data, count)
			noHash(t, fmt.Sprint("PieceRoot ", count), root, e, api.ErrPer)
		}
	}
	for _, sc := range wrongs {
		for _, count := range []int{0, 1, 3, 4} {
			for _, data := range [][]byte{nil, data} {
				root, e := tree.PieceRoot(sc, data, count)
				noHash(t, fmt.Sprint("PieceRoot ", sc), root, e, api.ErrScale)
			}
		}
	}
}

// P6.11, P6.13, P6.12: contents about the ends of their pieces, for each piece length up to 16 blocks.
func TestPieceLayer(t *testing.T) {
	r := rand.New(rand.NewSource(13))
	for _, sc := range scales {
		for _, n := range lengths(sc, 37) {
			data := content(r, n)
			for per := 1; per <= 16; per *= 2 {
				call := fmt.Sprintf("(%v, %d, %d bytes)", sc, per*sc.Block, n)
				row, e := tree.PieceLayer(sc, per*sc.Block, data)
				isRow(t, "PieceLayer"+call, row, e, layer(sc, per*sc.Block, data))
				if n <= per*sc.Block {
					root, e := tree.LayerRoot(sc, per*sc.Block, n, row)
					noHash(t, "LayerRoot"+call, root, e, api.ErrFit)
					continue
				}
				for i, p := range parts(data, per*sc.Block) {
					root, e := tree.PieceRoot(sc, p, per)
					isHash(t, "PieceRoot"+call, root, e, row[i])
				}
				want, _ := tree.FileRoot(sc, data)
				root, e := tree.LayerRoot(sc, per*sc.Block, n, row)
				isHash(t, "LayerRoot"+call, root, e, want)
			}
		}
	}
}

// isPieceLen tells whether n is a block times 1, 2, 4, .. 1024.
func isPieceLen(sc api.Scale, n int) bool {
	for per := 1; per <= 1024; per *= 2 {
		if n == per*sc.Block {
			return true
		}
	}
	return false
}

// P6.11, P6.12, P6.14: each number up to 2100 as a piece length, those about the greatest one, and the ends of the ints; P0.2: the order of the errors.
func TestPieceLen(t *testing.T) {
	data := content(rand.New(rand.NewSource(14)), 300)
	for _, sc := range append(slices.Clone(scales), api.Scale{Block: 1024, Width: 32}, api.Scale{Block: 16384, Width: 32}) {
		all := slices.Clone(ends)
		for n := -300; n <= 2100; n++ {
			all = append(all, n)
		}
		for _, n := range []int{512, 1000, 1023, 1024, 1025, 2048, 1 << 20, 1 << 40} {
			all = append(all, n*sc.Block-1, n*sc.Block, n*sc.Block+1, -n*sc.Block)
		}
		for _, n := range all {
			call := fmt.Sprintf("the piece length %d at %v", n, sc)
			row, e := tree.PieceLayer(sc, n, data)
			root, f := tree.LayerRoot(sc, n, -1, nil)
			b, g := tree.New(sc, n)
			if isPieceLen(sc, n) {
				isRow(t, call, row, e, layer(sc, n, data))
				noHash(t, call, root, f, api.ErrFit)
				if b == nil || g != api.OK {
					t.Errorf("New: %s: %d", call, g)
				}
				continue
			}
			noRow(t, call, row, e, api.ErrPer)
			noHash(t, call, root, f, api.ErrPer)
			if b != nil || g != api.ErrPer {
				t.Errorf("New: %s: %d", call, g)
			}
		}
	}
	for _, sc := range wrongs {
		for _, n := range []int{0, 64, 96, sc.Block} {
			row, e := tree.PieceLayer(sc, n, data)
			noRow(t, fmt.Sprint("PieceLayer ", sc), row, e, api.ErrScale)
			root, e := tree.LayerRoot(sc, n, 300, nil)
			noHash(t, fmt.Sprint("LayerRoot ", sc), root, e, api.ErrScale)
			if b, e := tree.New(sc, n); b != nil || e != api.ErrScale {
				t.Errorf("New at %v: %d", sc, e)
			}
		}
	}
}

// P6.12: rows of each length against files of each length about the ends of their pieces.
func TestLayerRoot(t *testing.T) {
	r := rand.New(rand.NewSource(15))
	for _, sc := range scales {
		for _, per := range []int{1, 2, 8, 1024} {
			size := per * sc.Block
			row := hashes(r, 12)
			for k := -1; k <= 11; k++ {
				for _, n := range []int{k*size - 1, k * size, k*size + 1, k*size + size/2} {
					for count := range len(row) {
						call := fmt.Sprintf("LayerRoot(%v, %d, %d, %d hashes)", sc, size, n, count)
						root, e := tree.LayerRoot(sc, size, n, row[:count])
						if n <= size || (count-1)*size >= n || count*size < n {
							noHash(t, call, root, e, api.ErrFit)
							continue
						}
						isHash(t, call, root, e, top(sc, row[:count], log(per), 0))
					}
				}
			}
		}
	}
	for _, n := range append([]int{-300, 129 - 1<<32}, ends...) {
		for _, count := range []int{0, 1, 2, 3} {
			root, e := tree.LayerRoot(own, 128, n, make([]api.Hash, count))
			noHash(t, fmt.Sprint("LayerRoot of the length ", n), root, e, api.ErrFit)
		}
	}
}

// P6.12: the longest file, one byte less and one more; as many hashes as a row may have, one fewer and one more, which is ErrMany only if they fit.
func TestLayerRootLimit(t *testing.T) {
	t.Parallel()
	r := rand.New(rand.NewSource(16))
	big := api.Scale{Block: 16384, Width: 32}
	row := hashes(r, api.MaxNodes+1)
	size := 1024 * big.Block
	for _, n := range []int{api.MaxLen - 1, api.MaxLen, api.MaxLen - size + 1} {
		root, e := tree.LayerRoot(big, size, n, row[:65536])
		isHash(t, fmt.Sprint("LayerRoot of the length ", n), root, e, top(big, row[:65536], 10, 0))
	}
	for _, n := range []int{api.MaxLen + 1, api.MaxLen + size} {
		root, e := tree.LayerRoot(big, size, n, row[:65537])
		noHash(t, fmt.Sprint("LayerRoot of the length ", n), root, e, api.ErrFit)
	}
	for _, count := range []int{api.MaxNodes - 1, api.MaxNodes} {
		root, e := tree.LayerRoot(own, 128, count*128, row[:count])
		isHash(t, fmt.Sprint("LayerRoot of as many as ", count), root, e, top(own, row[:count], 1, 0))
	}
	for _, n := range []int{api.MaxNodes*128 + 1, (api.MaxNodes + 1) * 128} {
		root, e := tree.LayerRoot(own, 128, n, row)
		noHash(t, "LayerRoot of a long row", root, e, api.ErrMany)
	}
	for _, n := range []int{300, api.MaxNodes * 128, (api.MaxNodes+1)*128 + 1, api.MaxLen, api.MaxLen + 1, -1} {
		root, e := tree.LayerRoot(own, 128, n, row)
		noHash(t, fmt.Sprint("LayerRoot of a long row that does not fit ", n), root, e, api.ErrFit)
	}
}

// P6.4, P6.9 to P6.12: the examples that the chapter writes out.
func TestFileExamples(t *testing.T) {
	p := func(l, r api.Hash) api.Hash { return two(own, l, r) }
	d := func(b []byte) api.Hash { return sum(own, b) }
	z0, z1 := blank(own, 0), blank(own, 1)
	r := rand.New(rand.NewSource(2))
	x := content(r, 300)
	row, e := tree.Leaves(own, x[:130])
	isRow(t, "Leaves", row, e, []api.Hash{d(x[:64]), d(x[64:128]), d(x[128:130])})
	root, e := tree.FileRoot(own, x[:65])
	isHash(t, "FileRoot", root, e, p(d(x[:64]), d(x[64:65])))
	root, e = tree.FileRoot(own, x[:10])
	isHash(t, "FileRoot", root, e, d(x[:10]))
	root, e = tree.PieceRoot(own, x[:10], 1)
	isHash(t, "PieceRoot", root, e, d(x[:10]))
	root, e = tree.PieceRoot(own, x[:10], 4)
	isHash(t, "PieceRoot", root, e, p(p(d(x[:10]), z0), z1))
	row, e = tree.PieceLayer(own, 128, x)
	isRow(t, "PieceLayer", row, e, []api.Hash{p(d(x[:64]), d(x[64:128])), p(d(x[128:192]), d(x[192:256])), p(d(x[256:]), z0)})
	three := hashes(r, 3)
	root, e = tree.LayerRoot(own, 128, 300, three)
	isHash(t, "LayerRoot", root, e, p(p(three[0], three[1]), p(three[2], z1)))
	row, _ = tree.Leaves(own, x[:128])
	root, e = tree.FileRoot(own, slices.Concat(row[0][:], row[1][:]))
	want, _ := tree.FileRoot(own, x[:128])
	isHash(t, "FileRoot of two leaves", root, e, want)
}
