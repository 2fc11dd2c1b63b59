package audit_test

import (
	"bytes"
	"math/rand"
	"slices"
	"testing"

	"torrent/api"
	"torrent/audit"
	"torrent/create"
	"torrent/tree"
)

// P25.1: a cut at each place, and bytes behind the end.
func TestCheckOfCuts(t *testing.T) {
	m := three(t)
	for n := range 302 {
		data := append(slices.Clone(a), 5, 5)[:n]
		want := []int{3, 3, 3, 3}
		for i, end := range []int{128, 256, 300} {
			if n >= end {
				want[i] = 1
			}
		}
		wantStates(t, m, []api.Source{file(c, "x"), file(data, "a")}, want...)
		for i, s := range want {
			if s == 1 {
				want[i] = 4
			}
		}
		wantStates(t, bare(m), []api.Source{file(data, "a"), file(c, "x")}, want...)
	}
}

// P25.1: each byte counts, and for its own piece alone.
func TestCheckOfEachByte(t *testing.T) {
	m := three(t)
	for at := range a {
		want := []int{1, 1, 1, 1}
		want[at/128] = 2
		wantStates(t, m, []api.Source{file(changed(a, at), "a"), file(c, "c")}, want...)
	}
	for at := range c {
		wantStates(t, bare(m), []api.Source{file(changed(c, at), "c")}, 3, 3, 3, 2)
	}
}

// P25.1: the namesake is looked at, not a file that is right elsewhere; and a piece that lies at another place counts for nothing.
func TestCheckByNameAlone(t *testing.T) {
	m := three(t)
	wantStates(t, m, []api.Source{file(c, "a"), file(a, "c"), file(a, "a", "a"), file(c, "b")}, 3, 3, 3, 2)
	wantStates(t, m, []api.Source{file(slices.Concat(a[128:256], a[:128], a[256:]), "a")}, 2, 2, 1, 3)
	wantStates(t, m, []api.Source{file(a, "A"), file(c, "c "), file(a), file(nil, "a", "")}, 3, 3, 3, 3)
}

// P25.1: two of three large files have a layer.
func TestCheckWithSomeLayers(t *testing.T) {
	x, y, z := some(5, 200), some(6, 300), some(7, 129)
	m := built(t, own, 128, file(x, "x"), file(y, "y"), file(z, "z"))
	for i, f := range m.Files {
		less := m
		less.Layers = slices.DeleteFunc(slices.Clone(m.Layers), func(l api.Layer) bool { return l.Root == f.Root })
		l, e := audit.Check(own, less, []api.Source{file(z, "z"), file(y, "y"), file(changed(x, 0), "x")})
		if e != api.OK || len(l) != 7 {
			t.Fatalf("P25.1: Check = %v, %d", l, e)
		}
		for k, g := range l {
			want := 1
			if g.File == i {
				want = 4
			} else if k == 0 {
				want = 2
			}
			if g.File != []int{0, 0, 1, 1, 1, 2, 2}[k] || g.Piece != k || g.State != want {
				t.Errorf("P25.1: finding %d without the layer of %d is %v, want the state %d", k, i, g, want)
			}
		}
	}
}

// P25.1: empty files have no pieces, whatever their namesakes are.
func TestCheckOfNothing(t *testing.T) {
	m := built(t, own, 64, file(nil, "a"), file(nil, "b"))
	if l, e := audit.Check(own, m, []api.Source{file(a, "a"), file(nil, "b")}); len(l) != 0 || e != api.OK {
		t.Errorf("P25.1: Check of empty files = %v, %d", l, e)
	}
}

// P25.3: the length and the root alone count; of several the first.
func TestMatch(t *testing.T) {
	m := built(t, own, 128, file(a, "a"), file(nil, "b"), file(nil, "c"), file(a, "d"), file(c, "e"))
	for _, x := range []struct {
		pool []api.Source
		want []int
	}{
		{nil, []int{-1, -1, -1, -1, -1}},
		{[]api.Source{file(a, "x")}, []int{0, -1, -1, 0, -1}},
		{[]api.Source{file(nil, "x"), file(nil, "b"), file(a, "d"), file(a, "a"), file(c, "a", "b")}, []int{2, 0, 0, 2, 4}},
		{[]api.Source{file(a[:299], "a"), file(append(slices.Clone(a), 0), "b"), file(changed(a, 299), "c"), file(c[:63], "e")}, []int{-1, -1, -1, -1, -1}},
	} {
		for _, m := range []api.Meta{m, bare(m)} { // a layer is nothing to a match
			if l, e := audit.Match(own, m, x.pool); !slices.Equal(l, x.want) || e != api.OK {
				t.Errorf("P25.3: Match = %v, %d, want %v", l, e, x.want)
			}
		}
	}
}

// P25.3: the file that is made of another one's two leaves has its root, and is no match (chapter 6, example 12).
func TestMatchByLength(t *testing.T) {
	x := some(3, 128)
	l, _ := tree.Leaves(own, x)
	y := slices.Concat(l[0][:], l[1][:])
	m := built(t, own, 128, file(x, "x"), file(y, "y"))
	if m.Files[0].Root != m.Files[1].Root {
		t.Fatal("unlike roots")
	}
	if l, e := audit.Match(own, m, []api.Source{file(y, "x"), file(x, "y")}); !slices.Equal(l, []int{1, 0}) || e != api.OK {
		t.Errorf("P25.3: Match = %v, %d", l, e)
	}
	s := empty(t, own, m)
	if n, e := audit.Import(own, m, s, []api.Source{file(y, "x")}); n != 1 || e != api.OK || !has(s, 1) {
		t.Errorf("P25.4: Import = %d, %d, %v", n, e, s.Have())
	}
}

// P25.3: of a file with more blocks than a tree may have there is no root: it is no match, also of a file that tells zeros for its root.
func TestMatchOfTooLong(t *testing.T) {
	long := make([]byte, 64*api.MaxNodes+1)
	files := []api.File{{Path: []string{"a"}, Len: len(long)}, {Path: []string{"b"}}}
	m := api.Meta{Name: "t", PieceLen: 64 * 1024, Files: files}
	pool := []api.Source{file(long, "a"), file(nil, "z"), file(long, "y")}
	if l, e := audit.Match(own, m, pool); !slices.Equal(l, []int{-1, 1}) || e != api.OK {
		t.Errorf("P25.3: Match = %v, %d", l, e)
	}
	// P25.4: under its own name its pieces are right none the less.
	piece, _ := tree.PieceRoot(own, long[:m.PieceLen], 1024)
	end, _ := tree.PieceRoot(own, long[:1], 1024)
	layer := append(slices.Repeat([]api.Hash{piece}, 1024), end)
	root, e := tree.LayerRoot(own, m.PieceLen, len(long), layer)
	if e != api.OK {
		t.Fatal("tree.LayerRoot:", e)
	}
	m.Files[0].Root = root
	m.Layers = []api.Layer{{Root: root, Hashes: layer}}
	list := listed(t, own, m)[:2] // there is no disk for all of them
	s := opened(t, own, room(t, own, list), list)
	if n, e := audit.Import(own, m, s, pool[1:]); n != 0 || e != api.OK {
		t.Errorf("P25.4: Import of too long a file = %d, %d", n, e)
	}
	if n, e := audit.Import(own, m, s, pool); n != 2 || e != api.OK || !has(s, 0) || !has(s, 1) {
		t.Errorf("P25.4: Import by its name = %d, %d", n, e)
	}
}

// many are n files of 16 pieces of 64 bytes, with 16 contents, and the same under each other's names.
func many(n int) ([]api.Source, []api.Source) {
	files := numbered(n, nil)
	for i := range files {
		files[i].Data = some(i%16, 1024)
	}
	pool := slices.Clone(files)
	for i := range pool {
		pool[i].Path = files[(i+7)%n].Path
	}
	return files, pool
}

// P0.1: as many files and pieces as there may be.
func TestFindingAtTheLimits(t *testing.T) {
	files, pool := many(api.MaxFiles)
	m := built(t, own, 64, files...)
	for i, l := range [][]api.Source{files, pool} {
		found, e := audit.Check(own, m, l)
		if e != api.OK || len(found) != api.MaxPieces || slices.ContainsFunc(found, func(f api.Finding) bool { return f.State != 1+i || f.File != f.Piece/16 }) {
			t.Errorf("P25.1: Check of all = %d findings, %d", len(found), e)
		}
	}
	if l, e := audit.Extra(m, pool); len(l) != 0 || e != api.OK {
		t.Errorf("P25.2: Extra = %v, %d", l, e)
	}
	l, e := audit.Match(own, m, pool)
	if e != api.OK || len(l) != len(files) {
		t.Fatalf("P25.3: Match = %d places, %d", len(l), e)
	}
	for i, at := range l {
		if at != i%16 {
			t.Fatalf("P25.3: file %d is found at %d", i, at)
		}
	}
}

// P0.1: as many pieces as a disk has room for.
func TestImportAtTheLimits(t *testing.T) {
	files, pool := many(2047)
	m := built(t, own, 64, files...)
	s := empty(t, own, m)
	for _, want := range []int{16 * 2047, 0} {
		if n, e := audit.Import(own, m, s, pool); n != want || e != api.OK {
			t.Errorf("P25.4: Import of all = %d, %d, want %d", n, e, want)
		}
	}
	if out, e := audit.Export(m, s); e != api.OK || !same(out, files) {
		t.Errorf("P25.5: Export of all = %d files, %d", len(out), e)
	}
}

// P25.5: of a metainfo whose pieces would be greater than any disk only what is there is asked for.
func TestExportOfGreatPieces(t *testing.T) {
	s := empty(t, own, three(t))
	m := api.Meta{PieceLen: api.MaxBlock * api.MaxPieceBlocks, Files: []api.File{{Len: api.MaxLen}, {}}}
	if l, e := audit.Export(m, s); e != api.OK || !same(l, []api.Source{{}}) {
		t.Errorf("P25.5: Export = %v, %d", l, e)
	}
}

// P25.5: the pieces are cut by the metainfo, whatever the store takes for them; what is read is the begin of each.
func TestExportOfOtherPieces(t *testing.T) {
	m := three(t)
	s := empty(t, own, m)
	if n, e := audit.Import(own, m, s, firstPool()); n != 4 || e != api.OK {
		t.Fatalf("P25.4: Import = %d, %d", n, e)
	}
	other := api.Meta{PieceLen: 64, Files: []api.File{{Path: []string{"x"}, Len: 100}, {Path: []string{"x"}, Len: 64}, {}, {Path: []string{"", "y"}, Len: 1}, {Path: []string{"z"}, Len: 1}}}
	want := []api.Source{file(slices.Concat(a[:64], a[128:164]), "x"), file(nil), file(c[:1], "", "y")}
	if l, e := audit.Export(other, s); e != api.OK || !same(l, want) { // piece 2 has but 44 bytes, and there is no piece 4
		t.Errorf("P25.5: Export = %v, %d, want %v", l, e, want)
	}
}

// P25.4: the first that is right is taken: matches in the order of the pool, then the namesake; and what is there stays.
func TestFirstIsTaken(t *testing.T) {
	x := some(9, 200)
	r := rand.New(rand.NewSource(1))
	m := built(t, tiny, 256, file(x, "a"))
	y, z := twin(r, tiny, x), twin(r, tiny, x)
	for bytes.Equal(y, z) {
		z = twin(r, tiny, x)
	}
	long := func(b []byte) []byte { return append(slices.Clone(b), 1) }
	for i, w := range []struct {
		pool []api.Source
		want []byte
	}{
		{[]api.Source{file(x, "a"), file(y, "y"), file(z, "z")}, x},
		{[]api.Source{file(y, "y"), file(z, "z"), file(x, "a")}, y},
		{[]api.Source{file(z, "y"), file(x, "a"), file(y, "z")}, z},
		{[]api.Source{file(long(x), "a"), file(long(y), "y"), file(z, "z")}, z},
		{[]api.Source{file(long(x), "y"), file(long(y), "a"), file(z[:199], "z")}, y},
		{[]api.Source{file(long(x), "y")}, nil},
		{[]api.Source{file(x[:199], "a")}, nil},
	} {
		s := empty(t, tiny, m)
		n, e := audit.Import(tiny, m, s, w.pool)
		if w.want == nil {
			if n != 0 || e != api.OK || has(s, 0) {
				t.Errorf("P25.4: pool %d: Import = %d, %d", i, n, e)
			}
			continue
		}
		for range 2 {
			if b, f := s.Read(0, 0, 200); n != 1 || e != api.OK || f != api.OK || !bytes.Equal(b, w.want) {
				t.Errorf("P25.4: pool %d: Import = %d, %d; other bytes came", i, n, e)
			}
			if n, e := audit.Import(tiny, m, s, []api.Source{file(x, "x"), file(y, "y"), file(z, "z")}); n != 0 || e != api.OK {
				t.Errorf("P25.4: pool %d: Import again = %d, %d", i, n, e)
			}
		}
	}
}

// P25.4: a match whose root is right and whose piece is not is passed over, for the next match and for the namesake.
func TestMatchThatIsWrong(t *testing.T) {
	r := rand.New(rand.NewSource(2))
	x := some(10, 256)
	m := built(t, tiny, 128, file(x, "a"))
	y := twin(r, tiny, x)
	for top(tiny, y[:128], 0) == top(tiny, x[:128], 0) {
		y = twin(r, tiny, x)
	}
	for i, w := range []struct {
		pool []api.Source
		yes  bool
	}{
		{[]api.Source{file(y, "y")}, false},
		{[]api.Source{file(y, "a")}, false},
		{[]api.Source{file(y, "y"), file(x, "x")}, true},
		{[]api.Source{file(y, "y"), file(x[:128], "a")}, true},
		{[]api.Source{file(y, "y"), file(x[:127], "a")}, false},
		{[]api.Source{file(y, "y"), file(x[:128], "b")}, false},
	} {
		s := empty(t, tiny, m)
		audit.Import(tiny, m, s, w.pool)
		if b, e := s.Read(0, 0, 128); has(s, 0) != w.yes || w.yes && !bytes.Equal(b, x[:128]) {
			t.Errorf("P25.4: pool %d: %v, %d", i, s.Have(), e)
		}
	}
}

// P25.4: the hashes are told to the store also where the pool has nothing; what it had in earlier times is there again, and is not counted.
func TestImportTeaches(t *testing.T) {
	m := three(t)
	list := listed(t, own, m)
	d := room(t, own, list)
	s := opened(t, own, d, list)
	audit.Import(own, m, s, []api.Source{file(changed(a, 130), "a")})
	s.Sync()
	s = opened(t, own, d, unknown(list))
	if n, e := audit.Import(own, bare(m), s, nil); n != 0 || e != api.OK || has(s, 0) || s.Put(0, 0, a[:64]) != api.ErrStoreUnknown || s.Put(3, 0, c) != api.OK {
		t.Errorf("P25.4: Import without the layer = %d, %d", n, e)
	}
	if n, e := audit.Import(own, m, s, nil); n != 0 || e != api.OK || !bytes.Equal(s.Have(), []byte{0xa0}) || s.Put(1, 0, a[128:192]) != api.OK {
		t.Errorf("P25.4: Import of nothing = %d, %d, %v", n, e, s.Have())
	}
	if n, e := audit.Import(own, m, s, firstPool()); n != 2 || e != api.OK || !bytes.Equal(s.Have(), []byte{0xf0}) {
		t.Errorf("P25.4: Import = %d, %d, %v", n, e, s.Have())
	}
}

// P25.4: nothing is synced.
func TestNothingIsSynced(t *testing.T) {
	m := three(t)
	list := listed(t, own, m)
	d := room(t, own, list)
	s := opened(t, own, d, list)
	before := d.Durable()
	if n, e := audit.Import(own, m, s, firstPool()); n != 4 || e != api.OK || !bytes.Equal(d.Durable(), before) || len(d.Pending()) == 0 {
		t.Errorf("P25.4: Import = %d, %d, and the disk was synced", n, e)
	}
}

// P25.4: a store that was told another hash of one piece takes the others.
func TestStoreThatKnowsOtherwise(t *testing.T) {
	m := three(t)
	list := listed(t, own, m)
	list[1].Hash[0] ^= 1
	s := opened(t, own, room(t, own, list), list)
	if n, e := audit.Import(own, m, s, firstPool()); n != 3 || e != api.OK || !bytes.Equal(s.Have(), []byte{0xb0}) {
		t.Errorf("P25.4: Import = %d, %d, %v", n, e, s.Have())
	}
}

// P25.4: of a store with other pieces what it refuses does not come.
func TestStoreOfOtherPieces(t *testing.T) {
	m := three(t)
	list := listed(t, own, m)
	fewer := list[:2]
	s := opened(t, own, room(t, own, fewer), fewer)
	if n, e := audit.Import(own, m, s, firstPool()); n != 2 || e != api.OK || !bytes.Equal(s.Have(), []byte{0xc0}) {
		t.Errorf("P25.4: Import into fewer pieces = %d, %d, %v", n, e, s.Have())
	}
	other := unknown(list)
	other[0].Len, other[1].Leaves, other[2].Len = 127, 4, 45
	s = opened(t, own, room(t, own, other), other)
	if n, e := audit.Import(own, m, s, firstPool()); n != 1 || e != api.OK || !bytes.Equal(s.Have(), []byte{0x10}) {
		t.Errorf("P25.4: Import into other pieces = %d, %d, %v", n, e, s.Have())
	}
	none := opened(t, own, room(t, own, nil), nil)
	if n, e := audit.Import(own, m, none, firstPool()); n != 0 || e != api.OK {
		t.Errorf("P25.4: Import into no pieces = %d, %d", n, e)
	}
}

// P25.3: a scale's own root is taken, at each.
func TestMatchAtScales(t *testing.T) {
	for _, sc := range []api.Scale{{Block: 64, Width: 2}, {Block: 128, Width: 20}, {Block: 16384, Width: 32}} {
		x := some(4, 3*sc.Block+5)
		m := built(t, sc, 2*sc.Block, file(x, "a"))
		if l, e := audit.Match(sc, m, []api.Source{file(c, "c"), file(x, "x")}); !slices.Equal(l, []int{1}) || e != api.OK {
			t.Errorf("P25.3: Match at %v = %v, %d", sc, l, e)
		}
		s := empty(t, sc, m)
		if n, e := audit.Import(sc, m, s, []api.Source{file(x, "x")}); n != 2 || e != api.OK {
			t.Errorf("P25.4: Import at %v = %d, %d", sc, n, e)
		}
		if n, e := create.Pieces(m); n != 2 || e != api.OK {
			t.Fatal("create.Pieces:", n, e)
		}
	}
}

// P25.4: a piece whose hash is not known does not come, also where its hash is all zeros and the store has been told so.
func TestUnknownIsNotZero(t *testing.T) {
	x := some(1, 128)
	for seed := 2; top(tiny, x[:64], 0) != (api.Hash{}); seed++ {
		x = some(seed, 128)
	}
	m := built(t, tiny, 64, file(x, "a"))
	s := empty(t, tiny, m)
	if n, e := audit.Import(tiny, bare(m), s, []api.Source{file(x, "a")}); n != 0 || e != api.OK || s.Have()[0] != 0 {
		t.Errorf("P25.4: Import without the layer = %d, %d, %v", n, e, s.Have())
	}
	if l, e := audit.Check(tiny, bare(m), []api.Source{file(x, "a")}); len(l) != 2 || e != api.OK || l[0].State != api.FoundUnknown {
		t.Errorf("P25.1: Check without the layer = %v, %d", l, e)
	}
	if n, e := audit.Import(tiny, m, s, []api.Source{file(x, "a")}); n != 2 || e != api.OK {
		t.Errorf("P25.4: Import = %d, %d", n, e)
	}
}
