package audit_test

import (
	"bytes"
	"slices"
	"strings"
	"testing"

	"torrent/api"
	"torrent/audit"
	"torrent/meta"
)

// wantRefusals looks at what all calls that take files say of these, at our scale: Extra the one, the others the other.
func wantRefusals(t *testing.T, m api.Meta, files []api.Source, extra, others api.Errno) {
	t.Helper()
	wantRefusalsAt(t, own, m, files, extra, others)
}

func wantRefusalsAt(t *testing.T, sc api.Scale, m api.Meta, files []api.Source, extra, others api.Errno) {
	t.Helper()
	s := empty(t, own, three(t))
	if l, e := audit.Check(sc, m, files); e != others || e != api.OK && len(l) != 0 {
		t.Errorf("P25.1: Check: %v, %d, want %d", l, e, others)
	}
	if l, e := audit.Extra(m, files); e != extra || e != api.OK && len(l) != 0 {
		t.Errorf("P25.2: Extra: %v, %d, want %d", l, e, extra)
	}
	if l, e := audit.Match(sc, m, files); e != others || e != api.OK && len(l) != 0 {
		t.Errorf("P25.3: Match: %v, %d, want %d", l, e, others)
	}
	if n, e := audit.Import(sc, m, s, files); e != others || e != api.OK && (n != 0 || s.Have()[0] != 0) {
		t.Errorf("P25.4: Import: %d, %d, want %d; the store has %v", n, e, others, s.Have())
	}
}

// P25.1 to P25.4: what may be no pool: two files of one path, in any places.
func TestTwoOfOnePath(t *testing.T) {
	m := three(t)
	for _, p := range [][]string{nil, {""}, {"", ""}, {"a"}, {"a", "b"}, {"a/b"}, {"..", "\xff\x00"}, make([]string, 100)} {
		l := []api.Source{file(a, "x"), file(c, "y"), file(nil, "z", "z"), file(a, "a/a")}
		for i := range l {
			for j := range i {
				twice := slices.Clone(l)
				twice[i].Path, twice[j].Path = p, slices.Clone(p)
				wantRefusals(t, m, twice, api.ErrPool, api.ErrPool)
			}
			once := slices.Clone(l)
			once[i].Path = p
			wantRefusals(t, m, once, api.OK, api.OK)
		}
	}
	// P0.5: no names and an empty list of names are one path.
	wantRefusals(t, m, []api.Source{file(a), file(c, []string{}...)}, api.ErrPool, api.ErrPool)
}

// P25.1 to P25.4: paths that look alike when they are written in one are not the same.
func TestPathsApart(t *testing.T) {
	m := three(t)
	paths := [][]string{{}, {""}, {"", ""}, {"a"}, {"a", ""}, {"", "a"}, {"a", "b"}, {"b", "a"}, {"ab"}, {"a/b"}, {"a,b"}, {"a\x00b"}, {"a\x00", "b"}, {"a", "\x00b"}, {"a1:b"}, {"1:a1:b"}, {"1:a", "b"}, {"a1:", "b"},
		{"1"}, {"1", "1"}, {"11"}, {"1:1"}, {"0:"}, {"0:", ""}, {":"}, {":", ""}, {"", ":"}, {"::"}, {"a b"}, {"a", " b"}, {"\"a\"", "b"}, {"a\",\"b"}, {strings.Repeat("x", 11)}, {"1", strings.Repeat("x", 10)}, {"1", strings.Repeat("x", 9), ""}, {"9xxxxxxxxx0"}, {"\xff"}, {"\ufffd"}}
	var files []api.Source
	for _, p := range paths {
		files = append(files, file(nil, p...))
	}
	wantRefusals(t, m, files, api.OK, api.OK)
	// Each is the namesake of its like alone; Extra does not mind that most of them may be no paths.
	for i, p := range paths {
		one := api.Meta{Files: []api.File{{Path: p}}}
		l, e := audit.Extra(one, files)
		if e != api.OK || len(l) != len(files)-1 || slices.Contains(l, i) || !slices.IsSorted(l) {
			t.Errorf("P25.2: Extra for the path %q = %v, %d", p, l, e)
		}
	}
}

// P25.1 to P25.4: the most files that a pool may have, and one more; also without paths.
func TestManyFiles(t *testing.T) {
	m := three(t)
	wantRefusals(t, m, numbered(api.MaxFiles, c), api.OK, api.OK)
	wantRefusals(t, m, numbered(api.MaxFiles+1, c), api.ErrPool, api.ErrPool)
	wantRefusals(t, m, make([]api.Source, 1000000), api.ErrPool, api.ErrPool)
}

// spoiled are faults of a metainfo, with what meta.Check says of them.
func spoiled(t *testing.T) map[string]api.Meta {
	all := map[string]api.Meta{"zero": {}}
	for what, f := range map[string]func(*api.Meta){
		"piece length": func(m *api.Meta) { m.PieceLen = 96 },
		"small pieces": func(m *api.Meta) { m.PieceLen = 32 },
		"no pieces":    func(m *api.Meta) { m.PieceLen = 0 },
		"great pieces": func(m *api.Meta) { m.PieceLen = 64 * 2048 },
		"name":         func(m *api.Meta) { m.Name = ".." },
		"no files":     func(m *api.Meta) { m.Files, m.Layers = nil, nil },
		"path":         func(m *api.Meta) { m.Files[1].Path = []string{"a/b"} },
		"order":        func(m *api.Meta) { m.Files[1].Path = []string{"a"} },
		"length":       func(m *api.Meta) { m.Files[0].Len = -1 },
		"long":         func(m *api.Meta) { m.Files[0].Len = api.MaxLen + 1 },
		"pieces":       func(m *api.Meta) { m.Files[0].Len = api.MaxPieces * 128; m.Layers = nil },
		"root":         func(m *api.Meta) { m.Files[1].Root[0] = 1 },
		"layer":        func(m *api.Meta) { m.Layers[0].Hashes = m.Layers[0].Hashes[:2] },
		"lie":          func(m *api.Meta) { m.Layers[0].Hashes = append([]api.Hash{{1}}, m.Layers[0].Hashes[1:]...) },
		"more":         func(m *api.Meta) { m.Top = []api.Pair{{Key: "info"}} },
	} {
		m := three(t)
		f(&m)
		all[what] = m
	}
	return all
}

// P25.1, P25.3, P25.4: the error of meta.Check, ahead of any other; to Extra a metainfo is nothing but paths.
func TestMetaThatMayNotBe(t *testing.T) {
	twice := []api.Source{file(c, "c"), file(a, "c")}
	for what, m := range spoiled(t) {
		want := meta.Check(own, m)
		if want == api.OK {
			t.Fatal("no fault:", what)
		}
		wantRefusals(t, m, twice, api.ErrPool, want)
		wantRefusals(t, m, twice[:1], api.OK, want)
		if n, e := audit.Import(own, m, nil, twice); n != 0 || e != want {
			t.Errorf("P25.4: Import, %s, into no store: %d, %d, want %d", what, n, e, want)
		}
	}
}

// P0.8: the scale is looked at first.
func TestScaleFirst(t *testing.T) {
	twice := []api.Source{file(c, "c"), file(a, "c")}
	for _, sc := range badScales {
		wantRefusalsAt(t, sc, api.Meta{}, twice, api.ErrPool, api.ErrScale)
		wantRefusalsAt(t, sc, three(t), nil, api.OK, api.ErrScale)
		if n, e := audit.Import(sc, api.Meta{}, nil, twice); n != 0 || e != api.ErrScale {
			t.Errorf("P0.8: Import at %v: %d, %d", sc, n, e)
		}
	}
	// A good scale, but not that of the metainfo: its pieces are no pieces there.
	wantRefusalsAt(t, api.Scale{Block: 256, Width: 32}, three(t), nil, api.OK, api.ErrMetaPiece)
	wantRefusalsAt(t, api.Scale{Block: 64, Width: 31}, three(t), nil, api.OK, api.ErrMetaRoot)
}

// P25.4: no store is told of ahead of what may be no pool.
func TestNoStore(t *testing.T) {
	m := three(t)
	if n, e := audit.Import(own, m, nil, []api.Source{file(c, "c"), file(a, "c")}); n != 0 || e != api.ErrNil {
		t.Errorf("P25.4: Import into no store = %d, %d", n, e)
	}
	if l, e := audit.Export(m, nil); len(l) != 0 || e != api.ErrNil {
		t.Errorf("P25.5: Export of no store = %v, %d", l, e)
	}
}

// P25.5: Export tells the faults of the map alone, and those ahead of there being no store.
func TestExportRefuses(t *testing.T) {
	s := empty(t, own, three(t))
	faults := spoiled(t)
	for what, want := range map[string]api.Errno{"zero": api.ErrMetaPiece, "piece length": api.ErrMetaPiece, "small pieces": api.ErrMetaPiece, "no pieces": api.ErrMetaPiece, "no files": api.ErrMetaTree, "length": api.ErrMetaLength, "long": api.ErrMetaLength, "pieces": api.ErrPathMany} {
		m := faults[what]
		delete(faults, what)
		if l, e := audit.Export(m, s); len(l) != 0 || e != want {
			t.Errorf("P25.5: Export, %s: %v, %d, want %d", what, l, e, want)
		}
		if l, e := audit.Export(m, nil); len(l) != 0 || e != want {
			t.Errorf("P25.5: Export, %s, of no store: %v, %d, want %d", what, l, e, want)
		}
	}
	for what, m := range faults { // those that are nothing to the map
		if l, e := audit.Export(m, s); len(l) != 1 || e != api.OK {
			t.Errorf("P25.5: Export, %s: %v, %d", what, l, e)
		}
	}
}

// P25.2: two files of a metainfo may have one path there, and there may be very many.
func TestExtraOfAnyMeta(t *testing.T) {
	pool := []api.Source{file(a, "a"), file(nil), file(c, "c"), file(nil, "b", "b")}
	m := api.Meta{Files: []api.File{{Path: []string{"c"}}, {Path: []string{"c"}, Len: -1}, {}, {Path: []string{"d"}}, {}}}
	if l, e := audit.Extra(m, pool); !slices.Equal(l, []int{0, 3}) || e != api.OK {
		t.Errorf("P25.2: Extra = %v, %d", l, e)
	}
	m.Files = make([]api.File, 200000)
	if l, e := audit.Extra(m, pool); !slices.Equal(l, []int{0, 2, 3}) || e != api.OK {
		t.Errorf("P25.2: Extra = %v, %d", l, e)
	}
	if l, e := audit.Extra(api.Meta{}, pool); !slices.Equal(l, []int{0, 1, 2, 3}) || e != api.OK {
		t.Errorf("P25.2: Extra for no files = %v, %d", l, e)
	}
	if l, e := audit.Extra(three(t), nil); len(l) != 0 || e != api.OK {
		t.Errorf("P25.2: Extra of nothing = %v, %d", l, e)
	}
}

// P25.2: of many files each place is told, rising.
func TestExtraOfMany(t *testing.T) {
	pool := numbered(api.MaxFiles, nil)
	m := api.Meta{}
	var want []int
	for i, p := range slices.Backward(pool) {
		if i%3 == 0 {
			m.Files = append(m.Files, api.File{Path: p.Path})
		}
	}
	for i := range pool {
		if i%3 != 0 {
			want = append(want, i)
		}
	}
	if l, e := audit.Extra(m, pool); !slices.Equal(l, want) || e != api.OK {
		t.Errorf("P25.2: Extra of many = %d places, %d", len(l), e)
	}
}

// P25.4, P0.2: with an error the store is as it was: it has not even learnt a hash.
func TestRefusedImportTeachesNothing(t *testing.T) {
	m := three(t)
	list := unknown(listed(t, own, m))
	d := room(t, own, list)
	s := opened(t, own, d, list)
	before := d.Image()
	audit.Import(own, m, s, []api.Source{file(c, "c"), file(a, "c")})
	m.Name = ""
	audit.Import(own, m, s, []api.Source{file(c, "c")})
	if e := s.Put(3, 0, c); e != api.ErrStoreUnknown {
		t.Errorf("P25.4: the store has learnt a hash: %d", e)
	}
	if !bytes.Equal(d.Image(), before) || len(d.Pending()) != 0 {
		t.Error("P25.4: something was written")
	}
}
