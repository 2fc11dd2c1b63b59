package create_test

import (
	"fmt"
	"math"
	"math/rand"
	"slices"
	"strings"
	"testing"

	"torrent/api"
	"torrent/create"
	"torrent/meta"
	"torrent/tree"
)

// wantBuilt looks whether Build and Create make the metainfo that is made without them.
func wantBuilt(t *testing.T, what string, sc api.Scale, name string, pieceLen int, files []api.Source) {
	t.Helper()
	want := metaOf(sc, name, pieceLen, files)
	m, e := create.Build(sc, name, pieceLen, files)
	if e != api.OK || !same(m, want) {
		t.Errorf("P9.8: %s: Build is another metainfo, error %d", what, e)
	}
	b, e := create.Create(sc, name, pieceLen, files)
	if e != api.OK || string(b) != metaText(want) {
		t.Errorf("P9.9: %s: Create is another text, error %d", what, e)
	}
	p, e := meta.Parse(sc, b)
	if e != api.OK || !same(p, m) {
		t.Errorf("P9.10: %s: Parse is not Build's metainfo, error %d", what, e)
	}
	if l, e := meta.Lacks(sc, p); e != api.OK || len(l) != 0 {
		t.Errorf("P9.10: %s: it lacks %v, error %d", what, l, e)
	}
}

// wantRefused looks whether Build and Create tell an error and nothing else.
func wantRefused(t *testing.T, what string, w args, e api.Errno) {
	t.Helper()
	m, f := create.Build(w.sc, w.name, w.pieceLen, w.files)
	b, g := create.Create(w.sc, w.name, w.pieceLen, w.files)
	if f != e || g != e || !same(m, api.Meta{}) || len(b) != 0 {
		t.Errorf("P9.8: %s: Build %d, Create %d, want %d", what, f, g, e)
	}
}

// args are the arguments of Build and Create.
type args struct {
	sc       api.Scale
	name     string
	pieceLen int
	files    []api.Source
}

// P9.8, P9.9, P9.10: the chapter's examples, and those of DOC.md.
func TestExamplesOfMaking(t *testing.T) {
	wantBuilt(t, "two empty files", own, "x", 128, []api.Source{{Path: []string{"b", "c"}}, {Path: []string{"a"}}})
	wantBuilt(t, "the four", own, "t", 128, fourFiles())
	wantBuilt(t, "one of three bytes", own, "t", 64, []api.Source{{Path: []string{"a"}, Data: []byte("abc")}})
	wantBuilt(t, "the same at a small scale", api.Scale{Block: 64, Width: 2}, "t", 64, []api.Source{{Path: []string{"a"}, Data: []byte("abc")}})
	twins := []api.Source{{Path: []string{"x"}, Data: some(1, 300)}, {Path: []string{"a", "b"}, Data: some(1, 300)}}
	wantBuilt(t, "twins", own, "t", 128, twins)
	if m, _ := create.Build(own, "t", 128, twins); len(m.Layers) != 1 || len(m.Files) != 2 {
		t.Errorf("P9.8: two files of the same bytes: %d layers", len(m.Layers))
	}
	const empty = "d4:infod9:file treed1:ad0:d6:lengthi0eeee12:meta versioni2e4:name1:t12:piece lengthi64ee12:piece layersdee"
	if b, e := create.Create(own, "t", 64, []api.Source{{Path: []string{"a"}}}); string(b) != empty || e != api.OK {
		t.Errorf("P9.9: Create = %q, %d", b, e)
	}
	wantRefused(t, "no file and a bad name", args{own, "..", 128, nil}, api.ErrNameDot)
	wantRefused(t, "no file", args{own, "x", 128, nil}, api.ErrMetaTree)
	wantRefused(t, "no file and no piece length", args{own, "x", 96, nil}, api.ErrMetaPiece)
	wantRefused(t, "a file as a folder", args{own, "x", 128, []api.Source{{Path: []string{"a"}}, {Path: []string{"a", "b"}}}}, api.ErrPathFolder)
}

// P9.8: the files stand in the order of their paths, which is not that of the joined texts, and the layers in that of their roots.
func TestOrders(t *testing.T) {
	var files []api.Source
	for i, p := range [][]string{{"b"}, {"a!"}, {"a", "z"}, {"a", "c", "d"}, {"A"}, {"é"}, {"a", "c!"}} {
		files = append(files, api.Source{Path: p, Data: some(i, 65+i)})
	}
	wantBuilt(t, "seven", own, "t", 64, files)
	m, _ := create.Build(own, "t", 64, files)
	var paths []string
	for _, f := range m.Files {
		paths = append(paths, strings.Join(f.Path, "/"))
	}
	if want := "A a/c/d a/c! a/z a! b é"; strings.Join(paths, " ") != want {
		t.Errorf("P9.8: the files are %v", paths)
	}
	for i := 1; i < len(m.Layers); i++ {
		if string(m.Layers[i-1].Root[:]) >= string(m.Layers[i].Root[:]) {
			t.Errorf("P9.8: the layer %d does not rise", i)
		}
	}
}

// P9.8 to P9.10: files made at random, and the same in other orders.
func TestMakingAtRandom(t *testing.T) {
	r := rand.New(rand.NewSource(98))
	for round := range 80 {
		sc := scales[[]int{0, 0, 2, 3}[round%4]]
		pieceLen := sc.Block << r.Intn(4)
		files := someFiles(r, pieceLen)
		if sc.Width == 2 {
			files = files[:min(2, len(files))] // more of them may have one root and two layers
		}
		wantBuilt(t, "at random", sc, "name", pieceLen, files)
		text, _ := create.Create(sc, "name", pieceLen, files)
		for range 3 {
			other := shuffled(r, files)
			b, e := create.Create(sc, "name", pieceLen, other)
			m, f := create.Build(sc, "name", pieceLen, other)
			if e != api.OK || f != api.OK || string(b) != string(text) || !same(m, metaOf(sc, "name", pieceLen, files)) {
				t.Errorf("P9.10: in another order: %d, %d", e, f)
			}
		}
	}
}

// P9.8, P0.8: no scale.
func TestMakingAtNoScale(t *testing.T) {
	for _, sc := range wrongs {
		wantRefused(t, "no scale", args{sc, "..", 96, nil}, api.ErrScale)
		wantRefused(t, "no scale", args{sc, "t", 64, fourFiles()}, api.ErrScale)
	}
}

// P9.8: what is no piece length at the scale.
func TestMakingWithNoPieceLength(t *testing.T) {
	for _, sc := range scales {
		for n := sc.Block; n <= sc.Block*api.MaxPieceBlocks; n *= 2 {
			if m, e := create.Build(sc, "t", n, fourFiles()[:1]); e != api.OK || m.PieceLen != n {
				t.Errorf("P9.8: pieces of %d at %v: %d", n, sc, e)
			}
			wantRefused(t, "one byte more", args{sc, "t", n + 1, fourFiles()}, api.ErrMetaPiece)
			wantRefused(t, "one byte less", args{sc, "t", n - 1, fourFiles()}, api.ErrMetaPiece)
			wantRefused(t, "below 0", args{sc, "t", -n, fourFiles()}, api.ErrMetaPiece)
		}
		for _, n := range []int{0, 1, sc.Block / 2, sc.Block * 3, sc.Block * 2048, 1 << 62, math.MinInt, math.MaxInt} {
			wantRefused(t, "no piece length", args{sc, "t", n, fourFiles()}, api.ErrMetaPiece)
		}
	}
}

// P9.8: the errors of a name and of paths, at their limits and beyond them.
func TestMakingWithNames(t *testing.T) {
	for name, e := range map[string]api.Errno{
		"": api.ErrNameEmpty, strings.Repeat("x", 255): api.OK, strings.Repeat("x", 256): api.ErrNameLong, "\xff": api.ErrNameUtf8,
		".": api.ErrNameDot, "..": api.ErrNameDot, "...": api.OK, "a/b": api.ErrNameByte, "a\\b": api.ErrNameByte, "\x00": api.ErrNameByte, "é": api.OK,
	} {
		w := args{own, name, 64, fourFiles()}
		if e != api.OK {
			wantRefused(t, "the name", w, e)
			w.files = nil
			wantRefused(t, "the name and no file", w, e)
		} else {
			wantBuilt(t, "the name", own, name, 64, w.files)
		}
		w = args{own, "t", 64, append(fourFiles(), api.Source{Path: []string{"e", name}, Data: some(1, 99)})}
		if e != api.OK {
			wantRefused(t, "a path", w, e)
		} else {
			wantBuilt(t, "a path", own, "t", 64, w.files)
		}
	}
	deep := strings.Split(strings.Repeat("e", 17), "")
	wantBuilt(t, "15 names", own, "t", 64, append(fourFiles(), api.Source{Path: deep[:15]}))
	wantBuilt(t, "16 names", own, "t", 64, append(fourFiles(), api.Source{Path: deep[:16]}))
	for _, c := range []struct {
		path []string
		e    api.Errno
	}{{deep, api.ErrPathDeep}, {nil, api.ErrNameEmpty}, {[]string{}, api.ErrNameEmpty}, {[]string{"b"}, api.ErrPathTwice}, {[]string{"b", "x"}, api.ErrPathFolder}} {
		wantRefused(t, "a path", args{own, "t", 64, append(fourFiles(), api.Source{Path: c.path})}, c.e)
		wantRefused(t, "a path ahead", args{own, "t", 64, append([]api.Source{{Path: c.path}}, fourFiles()...)}, c.e)
	}
}

// numbered are so many files of n bytes, all of them the same.
func numbered(files, n int) []api.Source {
	data := some(7, n)
	all := make([]api.Source, files)
	for i := range all {
		all[i] = api.Source{Path: []string{fmt.Sprintf("%04d", i)}, Data: data}
	}
	return all
}

// P9.8: the limits of files and of pieces.
func TestMakingWithManyPieces(t *testing.T) {
	full := numbered(api.MaxFiles, 16*64) // MaxPieces in all
	wantBuilt(t, "all pieces", own, "t", 64, full)
	full[17].Data = some(8, 15*64)
	wantBuilt(t, "one less", own, "t", 64, full)
	full[17].Data = some(8, 16*64+1)
	wantRefused(t, "one more", args{own, "t", 64, full}, api.ErrPathMany)
	wantBuilt(t, "one file less", own, "t", 64, full[:api.MaxFiles-1])
	wantRefused(t, "one file more", args{own, "t", 64, numbered(api.MaxFiles+1, 0)}, api.ErrPathMany)
	wantRefused(t, "one file with all pieces and one more", args{own, "t", 64, numbered(1, api.MaxPieces*64+1)}, api.ErrPathMany)
	wantRefused(t, "one file with all pieces", args{own, "t", 64, numbered(1, api.MaxPieces*64)}, api.ErrTextLong)
}

// P9.8: the limit of a file's blocks. Where there are too many pieces besides, what is told shows on which side the blocks are.
func TestMakingWithManyBlocks(t *testing.T) {
	t.Parallel()
	long := make([]byte, api.MaxNodes*64+1)
	for n, e := range map[int]api.Errno{len(long) - 65: api.ErrPathMany, len(long) - 64: api.ErrPathMany, len(long) - 1: api.ErrPathMany, len(long): api.ErrMany} {
		wantRefused(t, "long files", args{own, "t", 64, []api.Source{{Path: []string{"a"}}, {Path: []string{"b"}, Data: long[:n]}}}, e)
	}
	wantRefused(t, "a block too many", args{own, "t", 65536, []api.Source{{Path: []string{"a"}, Data: long}}}, api.ErrMany)
	m, e := create.Build(own, "t", 65536, []api.Source{{Path: []string{"a"}, Data: long[:len(long)-1]}})
	if e != api.OK || len(m.Files) != 1 || len(m.Layers) != 1 || len(m.Layers[0].Hashes) != 1024 {
		t.Fatalf("P9.8: a file of MaxNodes blocks: %d", e)
	}
	// All its blocks are alike, and so are all nodes of a level.
	h := sum(own, make([]byte, 64))
	for level := range 21 {
		if level == 10 && m.Layers[0].Hashes[1023] != h || level == 20 && (m.Files[0].Root != h || m.Layers[0].Root != h) {
			t.Errorf("P9.8: a file of MaxNodes blocks: level %d is another", level)
		}
		h = sum(own, slices.Concat(h[:], h[:]))
	}
}

// P9.8: a text of MaxText bytes is made, one of one more is not.
func TestMakingOfLongTexts(t *testing.T) {
	data := some(5, 64*40000)
	limit := 0
	for n := 1; n < 255; n++ {
		files := []api.Source{{Path: []string{"a"}, Data: data[:64*32760-1]}}
		text := metaText(metaOf(own, strings.Repeat("n", n), 64, files))
		name := strings.Repeat("n", n)
		if len(text) > api.MaxText {
			wantRefused(t, "a byte too many", args{own, name, 64, files}, api.ErrTextLong)
			break
		}
		if len(text) >= api.MaxText-1 {
			wantBuilt(t, "a long text", own, name, 64, files)
			limit = len(text)
		}
		if rest := api.MaxText - len(text); rest > 4 {
			n += rest - 4
		}
	}
	if limit != api.MaxText {
		t.Errorf("the limit was not reached: %d", limit)
	}
}

// sameRoots are two large files of one root, in pieces of 64 bytes, that have not the same layer: the blocks of the second are the pairs of leaves of the first.
func sameRoots() (api.Source, api.Source) {
	x := some(4, 256)
	var y []byte
	for _, h := range leavesOf(own, x) {
		y = append(y, h[:]...)
	}
	return api.Source{Path: []string{"x"}, Data: x}, api.Source{Path: []string{"y"}, Data: y}
}

// P9.8: two large files of one root and two layers, by two lengths that the tree can't tell apart.
func TestMakingWithTwoLayers(t *testing.T) {
	x, y := sameRoots()
	if rootOf(own, x.Data) != rootOf(own, y.Data) {
		t.Fatal("they have not one root")
	}
	wantBuilt(t, "the one", own, "t", 64, []api.Source{x})
	wantBuilt(t, "the other", own, "t", 64, []api.Source{y})
	for _, files := range [][]api.Source{{x, y}, {y, x}, {{Path: []string{"a"}, Data: x.Data}, y, x}, {{Path: []string{"z"}, Data: x.Data}, y, x}, append(fourFiles(), y, x)} {
		wantRefused(t, "one root and two layers", args{own, "t", 64, files}, api.ErrMetaLayer)
	}
	// In pieces of 128 bytes the second is not large: it has no layer.
	wantBuilt(t, "one of them large", own, "t", 128, []api.Source{x, y})
}

// P9.8: at a small scale two files of one root: with two layers they can't be told, with one layer and two lengths they can.
func TestMakingAtASmallScale(t *testing.T) {
	found := 0
	for i := 0; i < 3000 && found < 3; i++ {
		a, b := some(2*i, 65), some(2*i+1, 65+i%2)
		if rootOf(narrow, a) != rootOf(narrow, b) || slices.Equal(layerOf(narrow, 64, a), layerOf(narrow, 64, b)) {
			continue
		}
		found++
		files := []api.Source{{Path: []string{"a"}, Data: a}, {Path: []string{"b"}, Data: b}}
		wantRefused(t, "two layers by chance", args{narrow, "t", 64, files}, api.ErrMetaLayer)
		wantBuilt(t, "one root by chance, none of them large", narrow, "t", 128, files)
	}
	if found < 3 {
		t.Errorf("only %d such files were found", found)
	}
	short, long := alikeFiles()
	files := []api.Source{{Path: []string{"a"}, Data: long}, {Path: []string{"b"}, Data: short}}
	wantBuilt(t, "one layer, two lengths", narrow, "t", 64, files)
	if m, _ := create.Build(narrow, "t", 64, files); len(m.Layers) != 1 {
		t.Errorf("P9.8: one layer, two lengths: %d layers", len(m.Layers))
	}
}

// alikeFiles are files of 65 and of 66 bytes that have one layer at the narrow scale, in pieces of 64 bytes.
func alikeFiles() ([]byte, []byte) {
	short := some(1, 65)
	long := append(slices.Clone(short), 0)
	for i := range 1 << 16 {
		long[64], long[65] = byte(i), byte(i>>8)
		if sum(narrow, long[64:]) == sum(narrow, short[64:]) {
			break
		}
	}
	return short, long
}

// makeFaults are the faults of Build in their order. Those behind the loss of all files need a file.
func makeFaults(long []byte) []struct {
	e    api.Errno
	turn func(*args)
} {
	add := func(files ...api.Source) func(*args) {
		return func(w *args) { w.files = append(files, w.files...) }
	}
	x, y := sameRoots()
	return []struct {
		e    api.Errno
		turn func(*args)
	}{
		{api.ErrScale, func(w *args) { w.sc.Width = 33 }},
		{api.ErrMetaPiece, func(w *args) { w.pieceLen = 96 }},
		{api.ErrNameDot, func(w *args) { w.name = "." }},
		{api.ErrMetaTree, func(w *args) { w.files = nil }},
		{api.ErrNameByte, add(api.Source{Path: []string{"p", "\x01"}})},
		{api.ErrMany, add(api.Source{Path: []string{"q"}, Data: long})},
		{api.ErrPathMany, add(api.Source{Path: []string{"r"}, Data: long[:64*(api.MaxPieces+1)]})},
		{api.ErrMetaLayer, add(x, y)},
		{api.ErrTextLong, add(api.Source{Path: []string{"s"}, Data: long[:64*40000]})},
	}
}

// P9.8, P0.2: of two faults the one that stands first is told.
func TestMakingFaultsInTheirOrder(t *testing.T) {
	t.Parallel()
	long := make([]byte, api.MaxNodes*64+1)
	all := makeFaults(long)
	for i, a := range all {
		for j, b := range all[i:] {
			if a.e == api.ErrMetaTree && j > 0 {
				continue // no file, and a fault of a file, can't be
			}
			w := args{own, "t", 64, fourFiles()}
			if j > 0 {
				b.turn(&w)
			}
			a.turn(&w)
			wantRefused(t, fmt.Sprint("the faults ", a.e, " and ", b.e), w, a.e)
		}
	}
}

// P9.13: what Build makes can be cut, and each piece has the hash that is wanted, with the leaves that are told.
func TestBuiltIsCut(t *testing.T) {
	r := rand.New(rand.NewSource(913))
	for round := range 60 {
		sc := scales[round%len(scales)]
		pieceLen := sc.Block << r.Intn(4)
		files := someFiles(r, pieceLen)
		m, e := create.Build(sc, "t", pieceLen, files)
		if e == api.ErrMetaLayer && sc.Width <= 2 {
			continue
		}
		pieces, f := create.Slice(m, files)
		list, g := create.List(sc, m)
		if e != api.OK || f != api.OK || g != api.OK || len(list) != len(pieces) {
			t.Fatalf("P9.13: Build %d, Slice %d, List %d", e, f, g)
		}
		for i, b := range pieces {
			root, e := tree.PieceRoot(sc, b, list[i].Leaves)
			h, known, f := create.Want(sc, m, i)
			if e != api.OK || f != api.OK || !known || root != h {
				t.Errorf("P9.13: piece %d: the root is %x, %x is wanted (%v; %d, %d)", i, root, h, known, e, f)
			}
		}
	}
}
