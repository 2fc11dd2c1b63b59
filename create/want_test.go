package create_test

import (
	"math/rand"
	"slices"
	"strings"
	"testing"

	"torrent/api"
	"torrent/create"
	"torrent/meta"
	"torrent/tree"
)

// known is a piece whose hash is known.
func known(n, leaves int, h api.Hash) api.Piece {
	return api.Piece{Len: n, Leaves: leaves, Known: true, Hash: h}
}

// P9.6, P9.7: the chapter's examples.
func TestExamplesOfWants(t *testing.T) {
	files := fourFiles()
	m := metaOf(own, "t", 128, files)
	a, b := layerOf(own, 128, files[0].Data), layerOf(own, 128, files[3].Data)
	wants := []api.Hash{a[0], a[1], a[2], sum(own, files[2].Data), b[0], b[1]}
	for i, w := range wants {
		if h, known, e := create.Want(own, m, i); h != w || !known || e != api.OK {
			t.Errorf("P9.6: Want(%d) = %x, %v, %d", i, h, known, e)
		}
	}
	list, e := create.List(own, m)
	want := []api.Piece{known(128, 2, a[0]), known(128, 2, a[1]), known(44, 2, a[2]), known(64, 1, wants[3]), known(128, 2, b[0]), known(1, 2, b[1])}
	if !slices.Equal(list, want) || e != api.OK {
		t.Errorf("P9.7: List = %v, %d", list, e)
	}
	m.Layers = nil
	for i, w := range wants {
		h, known, e := create.Want(own, m, i)
		if i == 3 && (h != w || !known || e != api.OK) || i != 3 && (h != api.Hash{} || known || e != api.OK) {
			t.Errorf("P9.6: Want(%d) without layers = %x, %v, %d", i, h, known, e)
		}
		if i != 3 {
			want[i].Known, want[i].Hash = false, api.Hash{}
		}
	}
	if list, e := create.List(own, m); !slices.Equal(list, want) || e != api.OK {
		t.Errorf("P9.7: List without layers = %v, %d", list, e)
	}
}

// P9.6: a piece that is not there.
func TestNoSuchWant(t *testing.T) {
	for _, m := range []api.Meta{metaOf(own, "t", 128, fourFiles()), metaOf(own, "t", 64, fourFiles()[1:2])} {
		for _, i := range append(aliens, len(placesOf(m)), len(placesOf(m))+1) {
			if h, known, e := create.Want(own, m, i); h != (api.Hash{}) || known || e != api.ErrPiece {
				t.Errorf("P9.6: Want(%d) = %x, %v, %d", i, h, known, e)
			}
		}
	}
	if list, e := create.List(own, metaOf(own, "t", 64, fourFiles()[1:2])); len(list) != 0 || e != api.OK {
		t.Errorf("P9.7: the pieces of an empty file: %v, %d", list, e)
	}
}

// P9.6, P9.7: what meta.Check refuses is refused as it does it, ahead of a piece that is not there.
func TestWantsOfBadMetainfos(t *testing.T) {
	long := make([]api.Source, 1)
	long[0] = api.Source{Path: []string{"a"}, Data: some(1, 64*40000)}
	for _, c := range []struct {
		e    api.Errno
		turn func(*api.Meta)
	}{
		{api.ErrMetaPiece, func(m *api.Meta) { m.PieceLen = 32 }},
		{api.ErrMetaPiece, func(m *api.Meta) { m.PieceLen = 64 * 2048 }},
		{api.ErrNameDot, func(m *api.Meta) { m.Name = ".." }},
		{api.ErrNameEmpty, func(m *api.Meta) { m.Name = "" }},
		{api.ErrNameLong, func(m *api.Meta) { m.Name = strings.Repeat("x", 256) }},
		{api.ErrNameUtf8, func(m *api.Meta) { m.Files[0].Path = []string{"\xff"} }},
		{api.ErrNameByte, func(m *api.Meta) { m.Files[0].Path = []string{"a/b"} }},
		{api.ErrPathDeep, func(m *api.Meta) { m.Files[0].Path = make([]string, 17) }},
		{api.ErrMetaTree, func(m *api.Meta) { m.Files = nil }},
		{api.ErrPathMany, func(m *api.Meta) { m.Files = many(4097, 0) }},
		{api.ErrPathMany, func(m *api.Meta) { m.Files[3].Len = api.MaxLen }},
		{api.ErrMetaLength, func(m *api.Meta) { m.Files[1].Len = -1 }},
		{api.ErrMetaRoot, func(m *api.Meta) { m.Files[1].Root = api.Hash{1} }},
		{api.ErrMetaMore, func(m *api.Meta) { m.Files[1].More = []api.Pair{{Key: "length"}} }},
		{api.ErrMetaOrder, func(m *api.Meta) { m.Files[0], m.Files[1] = m.Files[1], m.Files[0] }},
		{api.ErrPathFolder, func(m *api.Meta) { m.Files[1].Path = []string{"a", "b"} }},
		{api.ErrMetaOrder, func(m *api.Meta) { slices.Reverse(m.Layers) }},
		{api.ErrMetaLayer, func(m *api.Meta) { m.Layers[0].Hashes = m.Layers[0].Hashes[1:] }},
		{api.ErrMetaLayer, func(m *api.Meta) { m.Files[0].Len = 128 }},
		{api.ErrTextLong, func(m *api.Meta) { *m = metaOf(own, "t", 64, long) }},
	} {
		m := metaOf(own, "t", 128, fourFiles())
		c.turn(&m)
		h, known, e := create.Want(own, m, -1)
		list, f := create.List(own, m)
		if h != (api.Hash{}) || known || e != c.e || len(list) != 0 || f != c.e || meta.Check(own, m) != c.e {
			t.Errorf("P9.6, P9.7: want %d, got %d and %d", c.e, e, f)
		}
		for _, sc := range wrongs {
			_, _, e := create.Want(sc, m, -1)
			_, f := create.List(sc, m)
			if e != api.ErrScale || f != api.ErrScale {
				t.Errorf("P0.8: at %v: %d, %d", sc, e, f)
			}
		}
	}
}

// P9.7: of a file that is not large, the leaves are the least power of two that its blocks have room in; of a large one, those of a whole piece.
func TestLeaves(t *testing.T) {
	for _, c := range []struct{ block, pieceLen, n, leaves, last int }{
		{64, 65536, 1, 1, 1}, {64, 65536, 64, 1, 1}, {64, 65536, 65, 2, 2}, {64, 65536, 128, 2, 2}, {64, 65536, 129, 4, 4},
		{64, 65536, 256, 4, 4}, {64, 65536, 257, 8, 8}, {64, 65536, 65536, 1024, 1024}, {64, 65536, 32768, 512, 512}, {64, 65536, 32769, 1024, 1024},
		{64, 65536, 65537, 1024, 1024}, {64, 64, 64, 1, 1}, {64, 64, 65, 1, 1}, {128, 512, 513, 4, 4}, {128, 512, 129, 2, 2}, {16384, 16384, 16385, 1, 1},
	} {
		sc := api.Scale{Block: c.block, Width: 32}
		m := metaOf(sc, "t", c.pieceLen, []api.Source{{Path: []string{"a"}, Data: some(c.n, c.n)}})
		list, e := create.List(sc, m)
		if e != api.OK || len(list) == 0 || list[0].Leaves != c.leaves || list[len(list)-1].Leaves != c.last {
			t.Errorf("P9.7: %d bytes in pieces of %d at %d: %v, %d", c.n, c.pieceLen, c.block, list, e)
		}
	}
}

// P9.6, P9.7: files made at random, some of whose layers are not there: List and Want tell the same, and the hash is the root of the piece's bytes.
func TestWantsAtRandom(t *testing.T) {
	r := rand.New(rand.NewSource(96))
	for round := range 60 {
		sc := scales[round%3]
		pieceLen := sc.Block << r.Intn(4)
		files := someFiles(r, pieceLen)
		if sc == narrow {
			files = files[:1] // two could have one root and two layers
		}
		m := metaOf(sc, "t", pieceLen, files)
		if n := len(m.Layers); n > 0 && round%2 == 0 {
			i := r.Intn(n)
			m.Layers = slices.Delete(m.Layers, i, i+1)
		}
		compareWants(t, sc, m, files)
	}
}

// compareWants holds what is wanted against what the files have.
func compareWants(t *testing.T, sc api.Scale, m api.Meta, files []api.Source) {
	t.Helper()
	list, e := create.List(sc, m)
	all := placesOf(m)
	if e != api.OK || len(list) != len(all) {
		t.Fatalf("P9.7: %d pieces, %d, want %d", len(list), e, len(all))
	}
	for i, at := range all {
		f := m.Files[at.File]
		s := files[slices.IndexFunc(files, func(s api.Source) bool { return slices.Equal(s.Path, f.Path) })]
		data := s.Data[at.From : at.From+at.Len]
		h, known, e := create.Want(sc, m, i)
		if e != api.OK || list[i].Known != known || list[i].Hash != h || list[i].Len != at.Len {
			t.Errorf("P9.6, P9.7: piece %d: %v; %x, %v, %d", i, list[i], h, known, e)
		}
		isThere := func(l api.Layer) bool { return l.Root == f.Root }
		if want := f.Len <= m.PieceLen || slices.ContainsFunc(m.Layers, isThere); known != want || !known && h != (api.Hash{}) {
			t.Errorf("P9.6: piece %d: known is %v, want %v", i, known, want)
		}
		if root, e := tree.PieceRoot(sc, data, list[i].Leaves); e != api.OK || known && root != h {
			t.Errorf("P9.7: piece %d: its root is %x, %d, want %x", i, root, e, h)
		}
	}
}

// P9.6: two files of one root, of which one is not large: its piece has the root, the other one's have the layer's hashes.
func TestOneRootLargeAndNot(t *testing.T) {
	large := some(1, 128)
	x, y := sum(own, large[:64]), sum(own, large[64:])
	small := slices.Concat(x[:], y[:])
	m := metaOf(own, "t", 64, []api.Source{{Path: []string{"a"}, Data: large}, {Path: []string{"b"}, Data: small}})
	list, e := create.List(own, m)
	want := []api.Piece{known(64, 1, x), known(64, 1, y), known(64, 1, rootOf(own, small))}
	if m.Files[0].Root != m.Files[1].Root || !slices.Equal(list, want) || e != api.OK {
		t.Errorf("P9.7: List = %v, %d", list, e)
	}
	for i, w := range want {
		if h, known, e := create.Want(own, m, i); h != w.Hash || !known || e != api.OK {
			t.Errorf("P9.6: Want(%d) = %x, %v, %d", i, h, known, e)
		}
	}
}

// P9.6, P9.7: as many pieces as there may be, of a file as long as it may be; its layer is not there.
func TestWantsAtTheLimits(t *testing.T) {
	sc := api.Scale{Block: api.MaxBlock, Width: 32}
	m := lens(api.MaxBlock*api.MaxPieceBlocks, api.MaxLen-1)
	m.Name, m.Files[0].Root = "t", api.Hash{5}
	list, e := create.List(sc, m)
	if e != api.OK || len(list) != api.MaxPieces {
		t.Fatalf("P9.7: %d pieces, %d", len(list), e)
	}
	for i, p := range list {
		want := api.Piece{Len: m.PieceLen, Leaves: api.MaxPieceBlocks}
		if i == api.MaxPieces-1 {
			want.Len--
		}
		if p != want {
			t.Fatalf("P9.7: piece %d is %v", i, p)
		}
	}
	for i, want := range map[int]api.Errno{api.MaxPieces - 1: api.OK, api.MaxPieces: api.ErrPiece} {
		if h, known, e := create.Want(sc, m, i); h != (api.Hash{}) || known || e != want {
			t.Errorf("P9.6: Want(%d) = %x, %v, %d", i, h, known, e)
		}
	}
}
