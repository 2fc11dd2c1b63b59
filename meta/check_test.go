package meta_test

import (
	"fmt"
	"math"
	"math/rand"
	"slices"
	"strings"
	"testing"

	"torrent/api"
	"torrent/meta"
)

// flaw is a fault of a metainfo, by when Check meets it: the steps of P8.2, those of step 4 by file and by what is looked at there.
type flaw struct {
	when int
	name string
	do   func(m *api.Meta)
	e    api.Errno
}

// flaws gathers them.
type flaws []flaw

func (f *flaws) add(when int, e api.Errno, name string, do func(m *api.Meta)) {
	*f = append(*f, flaw{when, name, do, e})
}

var badPairs = [][]api.Pair{
	{{Key: "k"}}, {{Key: "k", Val: api.Value{Kind: 5}}}, {{Key: "k", Val: api.Value{Kind: api.KindInt, Str: "x"}}}, pairsOf(d{"k": nest(33)}),
	{{Key: "b", Val: valueOf(1)}, {Key: "a", Val: valueOf(1)}}, {{Key: "a", Val: valueOf(1)}, {Key: "a", Val: valueOf(1)}}, {{Key: "a", Val: valueOf(1)}, {Key: "", Val: valueOf(1)}},
	{{Key: "a", Val: valueOf(1)}, {Key: "b", Val: api.Value{Kind: api.KindList, List: []api.Value{{}}}}},
	{{Key: "a", Val: api.Value{Kind: api.KindDict, Dict: []api.Pair{{Key: "b", Val: valueOf(1)}, {Key: "a", Val: valueOf(1)}}}}},
}

// headFlaws are those of the steps 1 to 3.
func (f *flaws) headFlaws() {
	for _, n := range []int{0, 1, 32, 96, 192, 131072, -64, -128, math.MinInt, math.MaxInt} {
		f.add(1, api.ErrMetaPiece, fmt.Sprint("PieceLen ", n), func(m *api.Meta) { m.PieceLen = n })
	}
	for s, e := range map[string]api.Errno{"": api.ErrNameEmpty, strings.Repeat("n", 256): api.ErrNameLong, "\xff": api.ErrNameUtf8, "..": api.ErrNameDot, "/": api.ErrNameByte} {
		f.add(2, e, fmt.Sprintf("Name %.10q", s), func(m *api.Meta) { m.Name = s })
	}
	f.add(3, api.ErrMetaTree, "Files nil", func(m *api.Meta) { m.Files = nil })
	f.add(3, api.ErrMetaTree, "Files empty", func(m *api.Meta) { m.Files = m.Files[:0] })
	f.add(3, api.ErrPathMany, "Files many", func(m *api.Meta) { m.Files = append(m.Files, make([]api.File, 4096)...) })
}

// fileFlaws are those of the file at the place i, one of the sample's.
func (f *flaws) fileFlaws(i int) {
	when := 100 + 10*i
	for _, p := range [][]string{nil, {}, {""}, {"a", "", "b"}, {"z", ""}} {
		f.add(when, api.ErrNameEmpty, fmt.Sprintf("file %d: Path %q", i, p), func(m *api.Meta) { m.Files[i].Path = p })
	}
	f.add(when, api.ErrPathDeep, fmt.Sprintf("file %d: Path deep", i), func(m *api.Meta) { m.Files[i].Path = make([]string, 17) })
	f.add(when, api.ErrNameByte, fmt.Sprintf("file %d: Path bad", i), func(m *api.Meta) { m.Files[i].Path = []string{"a", "\n", ".."} })
	for _, n := range []int{-1, 1<<40 + 1, math.MinInt, math.MaxInt} {
		f.add(when+1, api.ErrMetaLength, fmt.Sprintf("file %d: Len %d", i, n), func(m *api.Meta) { m.Files[i].Len = n })
	}
	f.add(when+2, api.ErrMetaRoot, fmt.Sprintf("file %d: an empty one's Root", i), func(m *api.Meta) {
		m.Files[i].Root[31] |= 1
		if m.Files[i].Len >= 0 && m.Files[i].Len <= 1<<40 {
			m.Files[i].Len = 0
		}
	})
	for n, bad := range badPairs {
		f.add(when+3, api.ErrMetaMore, fmt.Sprintf("file %d: More %d", i, n), func(m *api.Meta) { m.Files[i].More = bad })
	}
	for _, key := range []string{"length", "pieces root"} {
		f.add(when+3, api.ErrMetaMore, fmt.Sprintf("file %d: More %q", i, key), func(m *api.Meta) { m.Files[i].More = pairsOf(d{"a": 1, key: "x", "z": 1}) })
	}
	if i > 0 {
		f.add(when+4, api.ErrMetaOrder, fmt.Sprintf("file %d: the same Path", i), func(m *api.Meta) { m.Files[i].Path = slices.Clone(m.Files[i-1].Path) })
		f.add(when+4, api.ErrMetaOrder, fmt.Sprintf("file %d: a lesser Path", i), func(m *api.Meta) { m.Files[i].Path = []string{"A"} })
		f.add(when+5, api.ErrPathFolder, fmt.Sprintf("file %d: the Path goes on", i), func(m *api.Meta) { m.Files[i].Path = append(slices.Clone(m.Files[i-1].Path), "x") })
		f.add(when+5, api.ErrPathFolder, fmt.Sprintf("file %d: the Path goes further on", i), func(m *api.Meta) { m.Files[i].Path = append(slices.Clone(m.Files[i-1].Path), "x", "y") })
	}
}

// tailFlaws are those of the steps 5 to 8.
func (f *flaws) tailFlaws() {
	f.add(500, api.ErrPathMany, "pieces", func(m *api.Meta) { m.Files[4].Len = 128 * 65536 })
	f.add(501, api.ErrPathMany, "pieces of two files", func(m *api.Meta) { m.Files[0].Len, m.Files[4].Len = 128*32768, 128*32767 })
	f.add(600, api.ErrMetaLayer, "layer 0: a hash", func(m *api.Meta) { m.Layers[0].Hashes[1][5]++ })
	f.add(600, api.ErrMetaLayer, "layer 0: a Root", func(m *api.Meta) { m.Layers[0].Root = api.Hash{} })
	f.add(600, api.ErrMetaLayer, "layer 0: too few", func(m *api.Meta) { m.Layers[0].Hashes = m.Layers[0].Hashes[1:] })
	f.add(610, api.ErrMetaOrder, "layer 1: the same", func(m *api.Meta) { m.Layers = []api.Layer{m.Layers[0], m.Layers[0], m.Layers[1]} })
	f.add(610, api.ErrMetaOrder, "layer 1: a lesser Root", func(m *api.Meta) { m.Layers[1].Root = api.Hash{} })
	f.add(611, api.ErrMetaLayer, "layer 1: a greater Root", func(m *api.Meta) { m.Layers[1].Root = api.Hash{0: 255, 31: 255} })
	f.add(611, api.ErrMetaLayer, "layer 1: a hash", func(m *api.Meta) { m.Layers[1].Hashes[0][31]++ })
	f.add(620, api.ErrMetaLayer, "layer 2: of nobody", func(m *api.Meta) { m.Layers = append(m.Layers, api.Layer{Root: api.Hash{0: 255, 1: 255, 31: 255}}) })
	for n, bad := range badPairs {
		f.add(700, api.ErrMetaMore, fmt.Sprint("Info ", n), func(m *api.Meta) { m.Info = bad })
		f.add(700, api.ErrMetaMore, fmt.Sprint("Top ", n), func(m *api.Meta) { m.Top = bad })
	}
	for _, key := range []string{"file tree", "meta version", "name", "piece length", "files", "length", "pieces"} {
		f.add(700, api.ErrMetaMore, "Info "+key, func(m *api.Meta) { m.Info = pairsOf(d{"a": 1, key: 1, "z": 1}) })
	}
	for _, key := range []string{"info", "piece layers"} {
		f.add(700, api.ErrMetaMore, "Top "+key, func(m *api.Meta) { m.Top = pairsOf(d{"a": 1, key: d{}, "z": 1}) })
	}
	deep, long := api.Pair{Key: "zdeep", Val: valueOf(nest(32))}, api.Pair{Key: "zlong", Val: valueOf(strings.Repeat("x", api.MaxText))}
	f.add(800, api.ErrTextDepth, "Top deep", func(m *api.Meta) { m.Top = append(m.Top, deep) })
	f.add(800, api.ErrTextDepth, "Info deep", func(m *api.Meta) { m.Info = append(m.Info, deep) })
	f.add(801, api.ErrTextLong, "Top long", func(m *api.Meta) { m.Top = append(m.Top, long) })
	f.add(801, api.ErrTextLong, "Info long", func(m *api.Meta) { m.Info = append(m.Info, long) })
}

// touch tells what a flaw writes to, so that no two are laid into one thing.
func (f flaw) touch() string {
	switch {
	case f.when >= 700:
		return f.name[:3]
	case f.when >= 600:
		return "layers"
	case f.when >= 500:
		return "lengths"
	case f.when < 100:
		return fmt.Sprint(f.when)
	}
	return fmt.Sprint("file ", (f.when-100)/10, [...]string{"path", "len", "len", "more", "path", "path"}[f.when%10])
}

// P8.2, P0.2: each flaw by itself, and each two: the one that is met first counts. Print, Lacks and Supply refuse with the same.
func TestCheckFlaws(t *testing.T) {
	var all flaws
	all.headFlaws()
	for i := range 5 {
		all.fileFlaws(i)
	}
	all.tailFlaws()
	for _, f := range all {
		m := sampleMeta()
		f.do(&m)
		if e := meta.Check(own, m); e != f.e {
			t.Errorf("%s: %d, want %d", f.name, e, f.e)
		}
		noMeta(t, own, m, f.e)
	}
	for _, f := range all {
		for _, g := range all {
			if f.when >= g.when || f.touch() == g.touch() {
				continue
			}
			m := sampleMeta()
			g.do(&m)
			f.do(&m)
			if e := meta.Check(own, m); e != f.e {
				t.Errorf("%s, %s: %d, want %d", f.name, g.name, e, f.e)
			}
		}
	}
}

// P8.2: a file that has two flaws of one field, or of two that hang together.
func TestCheckFile(t *testing.T) {
	foreign := api.Hash{1: 1}
	for _, c := range []struct {
		sc   api.Scale
		f    api.File
		want api.Errno
	}{
		{own, api.File{Path: []string{""}, Len: -1}, api.ErrNameEmpty},
		{own, api.File{Path: []string{"b"}, Len: -1, Root: foreign}, api.ErrMetaLength},
		{own, api.File{Path: []string{"a"}, Root: foreign}, api.ErrMetaRoot},
		{own, api.File{Path: []string{"a"}, Root: api.Hash{31: 1}}, api.ErrMetaRoot},
		{narrow, api.File{Path: []string{"b"}, Len: 1, Root: foreign}, api.ErrMetaRoot},
		{narrow, api.File{Path: []string{"b"}, Root: foreign}, api.ErrMetaRoot},
		{narrow, api.File{Path: []string{"b"}, Root: api.Hash{1}}, api.ErrMetaRoot},
		{narrow, api.File{Path: []string{"b"}, Len: 1, Root: api.Hash{1}}, api.OK},
		{narrow, api.File{Path: []string{"b"}, Len: 1}, api.OK},
		{own, api.File{Path: []string{"a"}, More: badPairs[0]}, api.ErrMetaMore},
		{own, api.File{Path: []string{"a"}}, api.ErrMetaOrder},
		{own, api.File{Path: []string{"A", "a"}}, api.ErrMetaOrder},
		{own, api.File{Path: []string{"a", "a"}}, api.ErrPathFolder},
		{own, api.File{Path: []string{"a!"}}, api.OK},
	} {
		m := api.Meta{Name: "x", PieceLen: 64, Files: []api.File{{Path: []string{"a"}}, c.f}}
		if c.want != api.OK {
			noMeta(t, c.sc, m, c.want)
		} else if e := meta.Check(c.sc, m); e != api.OK {
			t.Errorf("Check(%s) = %d", short(m), e)
		}
	}
}

// P8.2: the order of paths is that by components, and a folder is found whatever stands behind it.
func TestCheckPaths(t *testing.T) {
	for _, c := range []struct {
		paths string
		want  api.Errno
	}{
		{"a/z a!", api.OK}, {"a! a/z", api.ErrMetaOrder}, {"a a! a/b", api.ErrMetaOrder}, {"a a/b a!", api.ErrPathFolder}, {"a/b a/b/c a/c", api.ErrPathFolder}, {"a/b/c a/b", api.ErrMetaOrder},
		{"a/b a/c a/c/d/e", api.ErrPathFolder}, {"a/b ab/c", api.OK}, {"a ab", api.OK}, {"ab a", api.ErrMetaOrder}, {"A a", api.OK}, {"a é", api.OK}, {"é a", api.ErrMetaOrder}, {"a/b b a/c", api.ErrMetaOrder}, {"a/a b/a c/a", api.OK},
	} {
		m := api.Meta{Name: "x", PieceLen: 64}
		for _, p := range strings.Fields(c.paths) {
			m.Files = append(m.Files, api.File{Path: strings.Split(p, "/")})
		}
		if c.want != api.OK {
			noMeta(t, own, m, c.want)
		} else if e := meta.Check(own, m); e != api.OK {
			t.Errorf("Check of %s: %d", c.paths, e)
		}
	}
}

// P8.2, P8.3: keys that are free in the one dictionary, though another one has them.
func TestFreeKeys(t *testing.T) {
	keys := []string{"", "info", "piece layers", "file tree", "meta version", "name", "piece length", "files", "length", "pieces", "pieces root", "zz", "Info", "nam", "names", "\xff"}
	for _, key := range keys {
		if key != "info" && key != "piece layers" {
			x, m := sample(), sampleMeta()
			x[key], m.Top = 1, pairsOf(d{key: 1, "comment": x["comment"]})
			parses(t, own, textOf(x), m)
		}
		if !slices.Contains([]string{"file tree", "meta version", "name", "piece length", "files", "length", "pieces"}, key) {
			x, m := sample(), sampleMeta()
			infoOf(x)[key] = l{1}
			m.Info = pairsOf(d{"private": 1, "info": infoOf(x)["info"], key: l{1}})
			parses(t, own, textOf(x), m)
		}
		if key != "length" && key != "pieces root" {
			x, m := sample(), sampleMeta()
			treeOf(x)["a"].(d)[""].(d)[key] = d{}
			m.Files[0].More = pairsOf(d{"attr": "x", key: d{}})
			treeOf(x)["b"].(d)["d"].(d)["z"] = d{"": d{"length": 0, key: key}}
			m.Files[2].More = pairsOf(d{key: key})
			parses(t, own, textOf(x), m)
		}
	}
}

// P8.2, step 8: how deep free pairs may be, in each of the three places.
func TestDepths(t *testing.T) {
	paths := [][]string{{"a"}, slices.Repeat([]string{"a"}, 16)}
	for _, path := range paths {
		base := func() api.Meta {
			return api.Meta{Name: "x", PieceLen: 64, Files: []api.File{{Path: path}}}
		}
		for n := range 36 {
			pairs := pairsOf(d{"k": nest(n)})
			for _, c := range []struct {
				around int
				lay    func(m *api.Meta)
			}{
				{1, func(m *api.Meta) { m.Top = pairs }},
				{2, func(m *api.Meta) { m.Info = pairs }},
				{4 + len(path), func(m *api.Meta) { m.Files[0].More = pairs }},
			} {
				m := base()
				c.lay(&m)
				want := api.OK
				if n > 32 {
					want = api.ErrMetaMore
				} else if n+c.around > 32 {
					want = api.ErrTextDepth
				}
				if e := meta.Check(own, m); e != want {
					t.Errorf("%d lists in %d dictionaries: %d, want %d", n, c.around, e, want)
				}
				if want != api.OK {
					noMeta(t, own, m, want)
				}
			}
		}
	}
}

// P8.1, P8.2: texts as long as they may be, one byte less, one more.
func TestLengths(t *testing.T) {
	base := api.Meta{Name: "x", PieceLen: 64, Files: []api.File{{Path: []string{"a"}}}, Top: pairsOf(d{"k": strings.Repeat("x", 1000000)})}
	b, e := meta.Print(own, base)
	if e != api.OK {
		t.Fatal(e)
	}
	room := api.MaxText - len(b)
	for _, n := range []int{-1, 0, 1} {
		m := base
		m.Top = pairsOf(d{"k": strings.Repeat("x", 1000000+room+n)})
		x := outline(64, d{"a": none}, d{})
		x["k"] = m.Top[0].Val.Str
		if n <= 0 {
			parses(t, own, textOf(x), m)
		} else {
			noText(t, own, textOf(x), api.ErrTextLong)
			noMeta(t, own, m, api.ErrTextLong)
		}
	}
}

// P8.2, step 8: a layer that is right, and too long for a text.
func TestLayerTooLong(t *testing.T) {
	hashes := randomHashes(rand.New(rand.NewSource(8)), own, 65536)
	root := over(own, 64, hashes)
	o := newTorrent(own, 64).file("a", 64*65536, root)
	if n, e := meta.Supply(own, o.m, 0, hashes); e != api.ErrTextLong || !same(n, api.Meta{}) {
		t.Errorf("Supply: %d", e)
	}
	o.layer(root, hashes...)
	noMeta(t, own, o.m, api.ErrTextLong)
	o.m.Top = badPairs[0]
	noMeta(t, own, o.m, api.ErrMetaMore)
	hashes[65535][0]++
	noMeta(t, own, o.m, api.ErrMetaLayer)
}
