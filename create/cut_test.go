package create_test

import (
	"bytes"
	"math/rand"
	"slices"
	"testing"

	"torrent/api"
	"torrent/create"
)

// fourPieces are the pieces of the chapter's example.
func fourPieces() [][]byte {
	f := fourFiles()
	return [][]byte{f[0].Data[:128], f[0].Data[128:256], f[0].Data[256:], f[2].Data, f[3].Data[:128], f[3].Data[128:]}
}

// wantSlice looks whether the files are cut into these pieces.
func wantSlice(t *testing.T, what string, m api.Meta, files []api.Source, want [][]byte) {
	t.Helper()
	if l, e := create.Slice(m, files); e != api.OK || !slices.EqualFunc(l, want, bytes.Equal) {
		t.Errorf("P9.11: Slice, %s: %d pieces, %d", what, len(l), e)
	}
}

// P9.11: the chapter's example, in each order of the files.
func TestExampleOfCutting(t *testing.T) {
	f := fourFiles()
	for a := range 4 {
		for b := range 4 {
			for c := range 4 {
				if d := 6 - a - b - c; a != b && a != c && b != c {
					wantSlice(t, "in any order", four(), []api.Source{f[a], f[b], f[c], f[d]}, fourPieces())
				}
			}
		}
	}
	if g, e := create.Glue(four(), fourPieces()); e != api.OK || !same(g, fourFiles()) {
		t.Errorf("P9.12: Glue: %d files, %d", len(g), e)
	}
	wantSlice(t, "an empty file", lens(64, 0), []api.Source{{Path: []string{"a"}}}, nil)
	if g, e := create.Glue(lens(64, 0, 0), nil); e != api.OK || !same(g, []api.Source{{Path: []string{"a"}}, {Path: []string{"b"}}}) {
		t.Errorf("P9.12: Glue of nothing: %v, %d", g, e)
	}
}

// P9.11: files that are not those of the metainfo.
func TestOtherFiles(t *testing.T) {
	f := fourFiles()
	as := func(i int, s api.Source) []api.Source {
		c := slices.Clone(f)
		c[i] = s
		return c
	}
	for what, files := range map[string][]api.Source{
		"none":                    nil,
		"one less":                f[:3],
		"one more":                append(slices.Clone(f), api.Source{Path: []string{"e"}}),
		"one twice besides":       append(slices.Clone(f), f[1]),
		"one twice":               as(3, f[2]),
		"an empty one twice":      as(0, f[1]),
		"another path":            as(3, api.Source{Path: []string{"e"}, Data: f[3].Data}),
		"a longer path":           as(3, api.Source{Path: []string{"d", "d"}, Data: f[3].Data}),
		"a path with more in it":  as(3, api.Source{Path: []string{"dd"}, Data: f[3].Data}),
		"no path":                 as(3, api.Source{Data: f[3].Data}),
		"a path of an empty name": as(3, api.Source{Path: []string{""}, Data: f[3].Data}),
		"a byte less":             as(3, api.Source{Path: []string{"d"}, Data: f[3].Data[:128]}),
		"a byte more":             as(3, api.Source{Path: []string{"d"}, Data: make([]byte, 130)}),
		"no bytes":                as(3, api.Source{Path: []string{"d"}}),
		"bytes for none":          as(1, api.Source{Path: []string{"b"}, Data: []byte{1}}),
		"bytes of each other":     {{Path: []string{"a"}, Data: f[3].Data}, f[1], f[2], {Path: []string{"d"}, Data: f[0].Data}},
	} {
		if l, e := create.Slice(four(), files); len(l) != 0 || e != api.ErrGlue {
			t.Errorf("P9.11: Slice, %s: %d pieces, %d", what, len(l), e)
		}
	}
}

// P9.11: two files of the metainfo have one path: each wants just one of the files to have it.
func TestOnePathTwice(t *testing.T) {
	m := lens(64, 65, 65)
	m.Files[1].Path = []string{"a"}
	data := some(1, 65)
	a, z := api.Source{Path: []string{"a"}, Data: data}, api.Source{Path: []string{"z"}, Data: []byte{1}}
	want := [][]byte{data[:64], data[64:], data[:64], data[64:]}
	wantSlice(t, "one for both", m, []api.Source{a, z}, want)
	wantSlice(t, "one for both", m, []api.Source{z, a}, want)
	if l, e := create.Slice(m, []api.Source{a, a}); len(l) != 0 || e != api.ErrGlue {
		t.Errorf("P9.11: both for both: %d pieces, %d", len(l), e)
	}
	m.Files[1].Len = 64
	if l, e := create.Slice(m, []api.Source{a, z}); len(l) != 0 || e != api.ErrGlue {
		t.Errorf("P9.11: one for two lengths: %d pieces, %d", len(l), e)
	}
	// P0.1: all files of one path, on both sides.
	all, files := lens(64), make([]api.Source, api.MaxFiles)
	all.Files = many(api.MaxFiles, 0)
	if l, e := create.Slice(all, files); len(l) != 0 || e != api.ErrGlue {
		t.Errorf("P9.11: all of one path: %d pieces, %d", len(l), e)
	}
}

// P9.11: paths are lists of any strings; an empty one and none are the same.
func TestAnyPaths(t *testing.T) {
	paths := [][]string{{}, {""}, {"", ""}, {"a/b"}, {"a", "b"}, {"a"}, {"a", ""}, {"..", "\xff"}, {"\xff"}, make([]string, 40)}
	m := lens(64)
	var files []api.Source
	var want [][]byte
	for i, p := range paths {
		m.Files = append(m.Files, api.File{Path: p, Len: i + 1})
		want = append(want, some(i, i+1))
		files = append(files, api.Source{Path: slices.Clone(p), Data: want[i]})
	}
	files[0].Path = nil
	r := rand.New(rand.NewSource(1))
	for range 20 {
		wantSlice(t, "any paths", m, shuffled(r, files), want)
	}
	if g, e := create.Glue(m, want); e != api.OK || !same(g, files) {
		t.Errorf("P9.12: any paths: %d files, %d", len(g), e)
	}
}

// P9.12: pieces that are not those of the metainfo.
func TestOtherPieces(t *testing.T) {
	p := fourPieces()
	as := func(i int, b []byte) [][]byte {
		c := slices.Clone(p)
		c[i] = b
		return c
	}
	for what, pieces := range map[string][][]byte{
		"none":                    nil,
		"one less":                p[:5],
		"the first one less":      p[1:],
		"an empty one more":       append(slices.Clone(p), nil),
		"an empty one ahead":      append([][]byte{nil}, p...),
		"the last one empty":      as(5, nil),
		"a byte less":             as(0, p[0][:127]),
		"a byte more":             as(0, make([]byte, 129)),
		"a whole one for a short": as(2, p[0]),
		"a short one for a whole": as(1, p[2]),
		"two in another order":    {p[0], p[1], p[3], p[2], p[4], p[5]},
	} {
		if g, e := create.Glue(four(), pieces); len(g) != 0 || e != api.ErrGlue {
			t.Errorf("P9.12: Glue, %s: %d files, %d", what, len(g), e)
		}
	}
	if g, e := create.Glue(lens(64, 0), [][]byte{nil}); len(g) != 0 || e != api.ErrGlue {
		t.Errorf("P9.12: a piece of an empty file: %v, %d", g, e)
	}
}

// P9.13: there and back, with files made at random.
func TestThereAndBack(t *testing.T) {
	r := rand.New(rand.NewSource(13))
	for range 150 {
		pieceLen := 64 << r.Intn(4)
		files := someFiles(r, pieceLen)
		m := api.Meta{PieceLen: pieceLen}
		var want [][]byte
		for _, s := range files {
			m.Files = append(m.Files, api.File{Path: s.Path, Len: len(s.Data)})
			want = slices.AppendSeq(want, slices.Chunk(s.Data, pieceLen))
		}
		wantSlice(t, "at random", m, shuffled(r, files), want)
		l, _ := create.Slice(m, shuffled(r, files))
		g, e := create.Glue(m, l)
		if e != api.OK || !same(g, files) {
			t.Errorf("P9.13: Glue of Slice is not the files: %d", e)
		}
		back, e := create.Slice(m, g)
		if e != api.OK || !same(back, l) {
			t.Errorf("P9.13: Slice of Glue is not the pieces: %d", e)
		}
	}
}

// P9.11, P9.12: as many pieces and files as there may be.
func TestCuttingAtTheLimits(t *testing.T) {
	files := numbered(api.MaxFiles, 16*64)
	m := lens(64)
	for _, s := range files {
		m.Files = append(m.Files, api.File{Path: s.Path, Len: len(s.Data)})
	}
	l, e := create.Slice(m, shuffled(rand.New(rand.NewSource(2)), files))
	if e != api.OK || len(l) != api.MaxPieces {
		t.Fatalf("P9.11: %d pieces, %d", len(l), e)
	}
	g, e := create.Glue(m, l)
	if e != api.OK || !slices.EqualFunc(g, files, func(a, b api.Source) bool { return slices.Equal(a.Path, b.Path) && bytes.Equal(a.Data, b.Data) }) {
		t.Errorf("P9.12: %d files, %d", len(g), e)
	}
}
