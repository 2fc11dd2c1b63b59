package create_test

import (
	"math"
	"math/rand"
	"testing"

	"torrent/api"
	"torrent/create"
)

// answers are what the calls answer that begin with the fault of the map, the last two of them with a scale; each is asked for something that is not there.
func answers(sc api.Scale, m api.Meta) map[string][]any {
	n, e1 := create.Pieces(m)
	a, b, e2 := create.Row(m, -1)
	w, e3 := create.Where(m, -1)
	p, q, e4 := create.At(m, -1, -1)
	l, e5 := create.Slice(m, nil)
	g, e6 := create.Glue(m, make([][]byte, api.MaxPieces+1))
	k, e7 := create.Blocks(sc, m, -1)
	r, e8 := create.Block(sc, m, -1, -1)
	return map[string][]any{
		"Pieces": {e1, n}, "Row": {e2, a, b}, "Where": {e3, w}, "At": {e4, p, q},
		"Slice": {e5, len(l)}, "Glue": {e6, len(g)}, "Blocks": {e7, k}, "Block": {e8, r},
	}
}

// wantFault looks whether all calls tell a fault and nothing else.
func wantFault(t *testing.T, what string, sc api.Scale, m api.Meta, e api.Errno) {
	t.Helper()
	for call, a := range answers(sc, m) {
		if a[0] != e {
			t.Errorf("%s: %s: error %d, want %d", what, call, a[0], e)
		}
		for _, x := range a[1:] {
			if x != 0 && x != (api.Place{}) && x != (api.Range{}) {
				t.Errorf("%s: %s: %v beside an error", what, call, x)
			}
		}
	}
}

// P9.1: the number of pieces, and each fault of the map, at its limit, one below it and one beyond it; all calls of the map tell it.
func TestFaultsOfTheMap(t *testing.T) {
	const full = api.MaxPieces
	for _, c := range []struct {
		what string
		m    api.Meta
		n    int
		e    api.Errno
	}{
		{"the four", four(), 6, 0},
		{"empty files", lens(64, 0, 0), 0, 0},
		{"one byte", lens(64, 1), 1, 0},
		{"the zero metainfo", api.Meta{}, 0, api.ErrMetaPiece},
		{"the least piece", lens(64, 63, 64, 65), 4, 0},
		{"half of it", lens(32, 1), 0, api.ErrMetaPiece},
		{"one byte less", lens(63, 1), 0, api.ErrMetaPiece},
		{"one byte more", lens(65, 1), 0, api.ErrMetaPiece},
		{"three blocks", lens(192, 1), 0, api.ErrMetaPiece},
		{"the greatest piece", lens(1<<24, 1<<24, 1<<24+1, 1<<24-1), 4, 0},
		{"half of the greatest", lens(1<<23, 1<<24, 1<<24+1, 1<<24-1), 7, 0},
		{"twice that", lens(1<<25, 1), 0, api.ErrMetaPiece},
		{"just below it", lens(1<<24-1, 1), 0, api.ErrMetaPiece},
		{"just above it", lens(1<<24+1, 1), 0, api.ErrMetaPiece},
		{"no piece", lens(0, 1), 0, api.ErrMetaPiece},
		{"a piece of one", lens(1, 1), 0, api.ErrMetaPiece},
		{"a piece below 0", lens(-64, 1), 0, api.ErrMetaPiece},
		{"the least int", lens(math.MinInt, 1), 0, api.ErrMetaPiece},
		{"the greatest int", lens(math.MaxInt, 1), 0, api.ErrMetaPiece},
		{"a great power", lens(1<<62, 1), 0, api.ErrMetaPiece},
		{"no file", lens(128), 0, api.ErrMetaTree},
		{"one file", lens(128, 0), 0, 0},
		{"4095 files", api.Meta{PieceLen: 64, Files: many(4095, 16*64)}, 4095 * 16, 0},
		{"4096 files", api.Meta{PieceLen: 64, Files: many(4096, 16*64)}, full, 0},
		{"4096 empty files", api.Meta{PieceLen: 64, Files: many(4096, 0)}, 0, 0},
		{"4097 files", api.Meta{PieceLen: 64, Files: many(4097, 0)}, 0, api.ErrPathMany},
		{"below 0 bytes", lens(64, 1, -1), 0, api.ErrMetaLength},
		{"the least number of bytes", lens(64, math.MinInt), 0, api.ErrMetaLength},
		{"the longest file", lens(1<<24, api.MaxLen), full, 0},
		{"one byte less than that", lens(1<<24, api.MaxLen-1), full, 0},
		{"one byte more than that", lens(1<<24, api.MaxLen+1), 0, api.ErrMetaLength},
		{"the greatest number of bytes", lens(64, math.MaxInt), 0, api.ErrMetaLength},
		{"one piece below the limit", lens(64, (full-1)*64), full - 1, 0},
		{"the limit", lens(64, full*64), full, 0},
		{"the limit, the last one short", lens(64, full*64-63), full, 0},
		{"one piece beyond the limit", lens(64, full*64+1), 0, api.ErrPathMany},
		{"the limit by two files", lens(64, 1, full*64-64, 0), full, 0},
		{"beyond the limit by two files", lens(64, 1, full*64-63, 0), 0, api.ErrPathMany},
		{"4096 of the longest files", api.Meta{PieceLen: 64, Files: many(4096, api.MaxLen)}, 0, api.ErrPathMany},
	} {
		n, e := create.Pieces(c.m)
		if n != c.n || e != c.e {
			t.Errorf("P9.1: Pieces, %s: %d, %d, want %d, %d", c.what, n, e, c.n, c.e)
		}
		if c.e != api.OK {
			wantFault(t, c.what, own, c.m, c.e)
		}
	}
}

// mapFaults are the faults of the map in their order; those behind a loss of all files can't be there with it.
func mapFaults() []struct {
	e    api.Errno
	turn func(*api.Meta)
} {
	return []struct {
		e    api.Errno
		turn func(*api.Meta)
	}{
		{api.ErrMetaPiece, func(m *api.Meta) { m.PieceLen = 192 }},
		{api.ErrPathMany, func(m *api.Meta) { m.Files = append(m.Files, make([]api.File, api.MaxFiles)...) }},
		{api.ErrMetaLength, func(m *api.Meta) { m.Files = append(m.Files, api.File{Len: -1}) }},
		{api.ErrMetaLength, func(m *api.Meta) { m.Files = append(m.Files, api.File{Len: api.MaxLen + 1}) }},
		{api.ErrPathMany, func(m *api.Meta) { m.Files = append(many(1, api.MaxLen), m.Files...) }},
	}
}

// P9.1, P0.2: of two faults of the map the one that stands first is told, wherever in the metainfo the other one is; P0.8, P9.4: a scale that is not good goes ahead of them.
func TestFaultsInTheirOrder(t *testing.T) {
	for i, a := range mapFaults() {
		for _, b := range mapFaults()[i:] {
			m := four()
			b.turn(&m)
			a.turn(&m)
			wantFault(t, "two faults", own, m, a.e)
			for _, sc := range wrongs {
				_, e := create.Blocks(sc, m, -1)
				_, f := create.Block(sc, m, -1, -1)
				if e != api.ErrScale || f != api.ErrScale {
					t.Errorf("P9.4: a fault of the map at %v: %d, %d", sc, e, f)
				}
			}
		}
	}
	wantFault(t, "no file and no piece length", own, lens(192), api.ErrMetaPiece)
	// P9.4: these have a map and are at no scale, or the map's fault goes ahead of the scale's.
	coarse := api.Scale{Block: 256, Width: 32}
	for _, c := range []struct {
		m api.Meta
		e api.Errno
	}{{four(), api.ErrMetaPiece}, {lens(128), api.ErrMetaTree}, {lens(128, -1), api.ErrMetaLength}, {lens(128, 128*api.MaxPieces, 1), api.ErrPathMany}} {
		_, e := create.Blocks(coarse, c.m, -1)
		_, f := create.Block(coarse, c.m, -1, -1)
		if e != c.e || f != c.e {
			t.Errorf("P9.4: pieces smaller than a block: %d, %d, want %d", e, f, c.e)
		}
	}
}

// P9.1 to P9.5: the chapter's examples.
func TestExamplesOfTheMap(t *testing.T) {
	m := four()
	for i, w := range [][2]int{{0, 3}, {3, 0}, {3, 1}, {4, 2}} {
		if first, n, e := create.Row(m, i); first != w[0] || n != w[1] || e != api.OK {
			t.Errorf("P9.2: Row(%d) = %d, %d, %d", i, first, n, e)
		}
	}
	for i, w := range map[int]api.Place{2: {File: 0, Nth: 2, From: 256, Len: 44}, 3: {File: 2, Len: 64}, 5: {File: 3, Nth: 1, From: 128, Len: 1}} {
		if at, e := create.Where(m, i); at != w || e != api.OK {
			t.Errorf("P9.3: Where(%d) = %v, %d", i, at, e)
		}
	}
	for i, w := range []int{2, 2, 1, 1, 2, 1} {
		if n, e := create.Blocks(own, m, i); n != w || e != api.OK {
			t.Errorf("P9.4: Blocks(%d) = %d, %d", i, n, e)
		}
	}
	for _, c := range []struct {
		piece, block int
		r            api.Range
		e            api.Errno
	}{{0, 1, api.Range{From: 64, Len: 64}, 0}, {2, 0, api.Range{Len: 44}, 0}, {2, 1, api.Range{}, api.ErrBlock}} {
		if r, e := create.Block(own, m, c.piece, c.block); r != c.r || e != c.e {
			t.Errorf("P9.4: Block(%d, %d) = %v, %d", c.piece, c.block, r, e)
		}
	}
	for _, c := range []struct {
		file, offset, piece, at int
		e                       api.Errno
	}{{0, 299, 2, 43, 0}, {2, 0, 3, 0, 0}, {0, 300, 0, 0, api.ErrByte}, {1, 0, 0, 0, api.ErrByte}, {9, -1, 0, 0, api.ErrFile}} {
		if p, at, e := create.At(m, c.file, c.offset); p != c.piece || at != c.at || e != c.e {
			t.Errorf("P9.5: At(%d, %d) = %d, %d, %d", c.file, c.offset, p, at, e)
		}
	}
}

// P9.2 to P9.5: a file, a piece, a block or a byte that is not there.
func TestNotThere(t *testing.T) {
	for _, m := range []api.Meta{four(), lens(64, 0), lens(64, 0, 1, 0), lens(1<<24, api.MaxLen)} {
		all := placesOf(m)
		for _, i := range append(aliens, len(m.Files), len(m.Files)+1) {
			if a, b, e := create.Row(m, i); a != 0 || b != 0 || e != api.ErrFile {
				t.Errorf("P9.2: Row(%d) = %d, %d, %d", i, a, b, e)
			}
			if a, b, e := create.At(m, i, 0); a != 0 || b != 0 || e != api.ErrFile {
				t.Errorf("P9.5: At(%d, 0) = %d, %d, %d", i, a, b, e)
			}
		}
		for i, f := range m.Files {
			for _, o := range append(aliens, f.Len, f.Len+1) {
				if o >= 0 && o < f.Len {
					continue
				}
				if a, b, e := create.At(m, i, o); a != 0 || b != 0 || e != api.ErrByte {
					t.Errorf("P9.5: At(%d, %d) = %d, %d, %d", i, o, a, b, e)
				}
			}
		}
		sc := api.Scale{Block: min(m.PieceLen, api.MaxBlock), Width: 3}
		for _, i := range append(aliens, len(all), len(all)+1) {
			at, e := create.Where(m, i)
			n, f := create.Blocks(sc, m, i)
			r, g := create.Block(sc, m, i, -1)
			if at != (api.Place{}) || e != api.ErrPiece || n != 0 || f != api.ErrPiece || r != (api.Range{}) || g != api.ErrPiece {
				t.Errorf("P9.3, P9.4: piece %d: %v, %d; %d, %d; %v, %d", i, at, e, n, f, r, g)
			}
		}
	}
	for _, b := range append(aliens, 2, 3, 1<<57, 1<<58) {
		if r, e := create.Block(own, four(), 0, b); r != (api.Range{}) || e != api.ErrBlock {
			t.Errorf("P9.4: Block(0, %d) = %v, %d", b, r, e)
		}
	}
}

// P9.4: the piece lengths of a scale, from a block to MaxPieceBlocks of them.
func TestPieceLengthsOfAScale(t *testing.T) {
	for block := api.MinBlock; block <= api.MaxBlock; block *= 2 {
		sc := api.Scale{Block: block, Width: 32}
		for n := api.MinBlock; n <= api.MaxBlock*api.MaxPieceBlocks; n *= 2 {
			m := lens(n, n, n-1, n+1)
			count, e := create.Blocks(sc, m, 0)
			r, f := create.Block(sc, m, 1, n/block-1)
			if n < block || n > block*api.MaxPieceBlocks {
				if count != 0 || e != api.ErrMetaPiece || r != (api.Range{}) || f != api.ErrMetaPiece {
					t.Errorf("P9.4: pieces of %d at %d: %d, %d; %v, %d", n, block, count, e, r, f)
				}
			} else if count != n/block || e != api.OK || r != (api.Range{From: n - block, Len: block - 1}) || f != api.OK {
				t.Errorf("P9.4: pieces of %d at %d: %d, %d; %v, %d", n, block, count, e, r, f)
			}
		}
	}
}

// P9.1 to P9.5: all answers about files made at random, against a walk over them.
func TestMapsAtRandom(t *testing.T) {
	r := rand.New(rand.NewSource(9))
	for range 300 {
		block := 64 << r.Intn(3)
		m := api.Meta{PieceLen: block << r.Intn(4)}
		for range 1 + r.Intn(6) {
			n := []int{0, r.Intn(block), m.PieceLen * r.Intn(4), m.PieceLen*r.Intn(4) + 1, r.Intn(5 * m.PieceLen)}[r.Intn(5)]
			m.Files = append(m.Files, api.File{Len: n})
		}
		compareMap(t, api.Scale{Block: block, Width: 1 + r.Intn(32)}, m)
	}
}

// compareMap holds all that is told of a map against a walk over it.
func compareMap(t *testing.T, sc api.Scale, m api.Meta) {
	t.Helper()
	all := placesOf(m)
	if n, e := create.Pieces(m); n != len(all) || e != api.OK {
		t.Errorf("P9.1: %d pieces, %d, want %d", n, e, len(all))
	}
	for i, f := range m.Files {
		ahead, its := 0, 0
		for _, at := range all {
			if at.File < i {
				ahead++
			} else if at.File == i {
				its++
			}
		}
		if a, b, e := create.Row(m, i); a != ahead || b != its || e != api.OK {
			t.Errorf("P9.2: Row(%d) = %d, %d, %d, want %d, %d", i, a, b, e, ahead, its)
		}
		if p, at, e := create.At(m, i, f.Len-1); f.Len > 0 && (p != ahead+its-1 || at != f.Len-1-(its-1)*m.PieceLen || e != api.OK) {
			t.Errorf("P9.5: At of the last byte of %d: %d, %d, %d", f.Len, p, at, e)
		}
	}
	for i, w := range all {
		if at, e := create.Where(m, i); at != w || e != api.OK {
			t.Errorf("P9.3: Where(%d) = %v, %d, want %v", i, at, e, w)
		}
		comparePiece(t, sc, m, i, w)
	}
}

// comparePiece holds what is told of a piece's blocks and bytes against a walk over them.
func comparePiece(t *testing.T, sc api.Scale, m api.Meta, piece int, at api.Place) {
	t.Helper()
	n := 0
	for from := 0; from < at.Len; from += sc.Block {
		w := api.Range{From: from, Len: min(sc.Block, at.Len-from)}
		if r, e := create.Block(sc, m, piece, n); r != w || e != api.OK {
			t.Errorf("P9.4: Block(%d, %d) = %v, %d, want %v", piece, n, r, e, w)
		}
		for _, o := range []int{from, from + w.Len - 1} {
			if p, b, e := create.At(m, at.File, at.From+o); p != piece || b != o || e != api.OK {
				t.Errorf("P9.5: At(%d, %d) = %d, %d, %d", at.File, at.From+o, p, b, e)
			}
		}
		n++
	}
	if k, e := create.Blocks(sc, m, piece); k != n || e != api.OK {
		t.Errorf("P9.4: Blocks(%d) = %d, %d, want %d", piece, k, e, n)
	}
	if r, e := create.Block(sc, m, piece, n); r != (api.Range{}) || e != api.ErrBlock {
		t.Errorf("P9.4: Block(%d, %d) = %v, %d", piece, n, r, e)
	}
}

// P9.1 to P9.5, P9.11, P9.12: the map looks at lengths alone, not at paths, roots and layers that may not be.
func TestOnlyLengthsCount(t *testing.T) {
	m := four()
	m.Name = ".."
	m.Layers = []api.Layer{{Root: api.Hash{9}}, {Root: api.Hash{1}}}
	m.Info = []api.Pair{{Key: "pieces"}, {}}
	m.Top = []api.Pair{{Key: "info"}}
	for i := range m.Files {
		m.Files[i].Path = nil
		m.Files[i].Root = api.Hash{31: 7}
		m.Files[i].More = []api.Pair{{Key: "length"}}
	}
	compareMap(t, narrow, m)
	pieces := [][]byte{some(1, 128), some(2, 128), some(3, 44), some(4, 64), some(5, 128), some(6, 1)}
	if g, e := create.Glue(m, pieces); e != api.OK || len(g) != 4 {
		t.Errorf("P9.12: Glue: %d files, %d", len(g), e)
	}
}
