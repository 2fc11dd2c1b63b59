package tree_test

import (
	"bytes"
	"math/rand"
	"slices"
	"testing"

	"torrent/api"
	"torrent/tree"
)

// answers are all rows and hashes that the calls make of one content and one row, at pieces of 128 bytes.
type answers struct {
	rows  [][]api.Hash
	nodes []api.Hash
}

func ask(data []byte, base []api.Hash) answers {
	var a answers
	row := func(x []api.Hash, _ api.Errno) { a.rows = append(a.rows, x) }
	node := func(x api.Hash, _ api.Errno) { a.nodes = append(a.nodes, x) }
	row(tree.Leaves(own, data))
	row(tree.PieceLayer(own, 64, data))
	row(tree.PieceLayer(own, 128, data))
	for to := 2; to <= 5; to++ {
		row(tree.Layer(own, base, 2, to))
	}
	node(tree.Root(own, base, 2))
	node(tree.FileRoot(own, data))
	node(tree.PieceRoot(own, data, 64))
	node(tree.LayerRoot(own, 128, len(base)*128-1, base))
	return a
}

func (a answers) equal(b answers) bool {
	return slices.EqualFunc(a.rows, b.rows, slices.Equal[[]api.Hash]) && slices.Equal(a.nodes, b.nodes)
}

// spoilRow writes over a row and its spare room.
func spoilRow(row []api.Hash) {
	for i := range row[:cap(row)] {
		row[:cap(row)][i] = api.Hash{0xee, 31: 0xee}
	}
}

// P6.15: what is handed in is not changed, its spare room neither, and nothing hangs on that room.
func TestArguments(t *testing.T) {
	r := rand.New(rand.NewSource(30))
	for _, n := range []int{1, 63, 64, 65, 300, 640} {
		for count := 1; count <= 9; count++ {
			data, base := content(r, n+200), hashes(r, count+8)
			sameData, sameBase := slices.Clone(data), slices.Clone(base)
			got := ask(data[:n], base[:count])
			if !bytes.Equal(data, sameData) || !slices.Equal(base, sameBase) {
				t.Fatalf("an argument has changed: %d bytes, %d hashes", n, count)
			}
			want := ask(slices.Clip(slices.Clone(data[:n])), slices.Clip(slices.Clone(base[:count])))
			if !got.equal(want) {
				t.Errorf("answers hang on spare room: %d bytes, %d hashes", n, count)
			}
			clear(data)
			clear(base)
			if !got.equal(want) {
				t.Errorf("answers have changed with what was handed in: %d bytes, %d hashes", n, count)
			}
		}
	}
}

// P6.15, P0.3, P0.5: an answer shares no memory with an argument or with another answer, its spare room neither.
func TestAnswers(t *testing.T) {
	r := rand.New(rand.NewSource(31))
	for _, count := range []int{1, 2, 3, 5, 8} {
		data, base := content(r, 300), hashes(r, count+8)
		sameBase := slices.Clone(base)
		first, second, want := ask(data, base[:count]), ask(data, base[:count]), ask(slices.Clone(data), slices.Clone(base[:count]))
		for i, row := range first.rows {
			spoilRow(row)
			for _, other := range first.rows[i+1:] {
				if slices.Contains(other, api.Hash{0xee, 31: 0xee}) {
					t.Fatal("two rows of the answers share memory")
				}
			}
		}
		if !second.equal(want) || !slices.Equal(base, sameBase) || !ask(data, base[:count]).equal(want) {
			t.Errorf("an answer was written into, and something else has changed: %d hashes", count)
		}
	}
}

// P6.15: a builder keeps and changes nothing that is handed in.
func TestBuilderArguments(t *testing.T) {
	r := rand.New(rand.NewSource(32))
	for range 200 {
		pieceLen := 64 << r.Intn(4)
		data := content(r, r.Intn(2000))
		b := build(t, own, pieceLen)
		for at := 0; at < len(data); {
			n := min(len(data)-at, r.Intn(300))
			p := append(slices.Clone(data[at:at+n]), content(r, 200)...)
			same := slices.Clone(p)
			write(t, b, p[:n])
			if !bytes.Equal(p, same) {
				t.Fatalf("Write of %d bytes has changed them, or their spare room", n)
			}
			clear(p)
			at += n
		}
		checkBuilder(t, b, own, pieceLen, data)
	}
}

// P6.15, P0.5: a layer that a builder answered can be written over, and stays as it is when more is written; with and without a piece, or a block, that is not whole.
func TestBuilderAnswers(t *testing.T) {
	r := rand.New(rand.NewSource(33))
	for _, pieceLen := range []int{64, 128, 256} {
		for n := pieceLen + 1; n <= 5*pieceLen+2; n++ {
			data := content(r, n+700)
			b := build(t, own, pieceLen)
			write(t, b, data[:n])
			kept, _ := b.Layer()
			spoilt, _ := b.Layer()
			spoilRow(spoilt)
			checkBuilder(t, b, own, pieceLen, data[:n])
			write(t, b, data[n:])
			spoilRow(spoilt)
			checkBuilder(t, b, own, pieceLen, data)
			if !slices.Equal(kept, layer(own, pieceLen, data[:n])) {
				t.Fatalf("a layer of %d bytes has changed by a later Write", n)
			}
		}
	}
}

// P0.3: builders have nothing to do with each other.
func TestBuildersApart(t *testing.T) {
	r := rand.New(rand.NewSource(34))
	one, other := content(r, 1500), content(r, 1500)
	a, b := build(t, own, 256), build(t, scales[1], 128)
	for at := 0; at < 1500; at += 100 {
		write(t, a, one[at:at+100])
		write(t, b, other[at:at+100])
		checkBuilder(t, a, own, 256, one[:at+100])
		checkBuilder(t, b, scales[1], 128, other[:at+100])
	}
}

// P0.5: nil and empty are the same.
func TestNil(t *testing.T) {
	for _, data := range [][]byte{nil, {}} {
		row, e := tree.Leaves(own, data)
		noRow(t, "Leaves", row, e, api.OK)
		row, e = tree.PieceLayer(own, 64, data)
		noRow(t, "PieceLayer", row, e, api.OK)
		root, e := tree.FileRoot(own, data)
		noHash(t, "FileRoot", root, e, api.ErrEmpty)
		root, e = tree.PieceRoot(own, data, 1)
		noHash(t, "PieceRoot", root, e, api.ErrEmpty)
		b := build(t, own, 64)
		write(t, b, data)
		checkBuilder(t, b, own, 64, nil)
	}
	for _, row := range [][]api.Hash{nil, {}} {
		root, e := tree.LayerRoot(own, 64, 0, row)
		noHash(t, "LayerRoot", root, e, api.ErrFit)
	}
}
