package meta_test

import (
	"fmt"
	"math"
	"strings"
	"testing"

	"torrent/api"
	"torrent/meta"
)

// step is a pair of a folder that the walk can't pass; the order of its Key among others tells when it is met.
type step struct {
	key string
	val any
	e   api.Errno
}

var (
	anyRoot = strings.Repeat("r", 32)
	badKeys = map[string]api.Errno{
		strings.Repeat("n", 256): api.ErrNameLong, "n\xff": api.ErrNameUtf8, ".": api.ErrNameDot, "..": api.ErrNameDot, "n\x1f": api.ErrNameByte, "n\x7f": api.ErrNameByte, "/": api.ErrNameByte, "n\\": api.ErrNameByte,
	}
	// badVals are what no Val of a folder's pair may be.
	badVals = []struct {
		val any
		e   api.Errno
	}{
		{0, api.ErrMetaTree}, {"", api.ErrMetaTree}, {"d0:de", api.ErrMetaTree}, {l{}, api.ErrMetaTree}, {l{none}, api.ErrMetaTree}, {d{}, api.ErrMetaTree},
		{d{"": d{"length": 0}, "b": none}, api.ErrMetaTree}, {d{"": 0, "b": 0}, api.ErrMetaTree}, {d{"": d{"length": -1}, "\\": 0}, api.ErrMetaTree},
		{d{"": 0}, api.ErrMetaTree}, {d{"": ""}, api.ErrMetaTree}, {d{"": l{}}, api.ErrMetaTree}, {d{"": d{}}, api.ErrMetaTree}, {d{"": d{"Length": 0, "lengths": 0}}, api.ErrMetaTree},
		{d{"": d{"length": "0"}}, api.ErrMetaTree}, {d{"": d{"length": l{0}, "pieces root": 0}}, api.ErrMetaTree}, {d{"": d{"length": d{}}}, api.ErrMetaTree}, {d{"": d{"pieces root": anyRoot}}, api.ErrMetaTree}, {d{"": none}, api.ErrMetaTree},
		{told(-1, anyRoot), api.ErrMetaLength}, {told(1<<40+1, anyRoot), api.ErrMetaLength}, {told(math.MaxInt, ""), api.ErrMetaLength}, {d{"": d{"length": math.MinInt}}, api.ErrMetaLength}, {d{"": d{"length": -1, "pieces root": 0}}, api.ErrMetaLength},
		{told(0, anyRoot), api.ErrMetaRoot}, {told(0, ""), api.ErrMetaRoot}, {told(0, strings.Repeat("\x00", 32)), api.ErrMetaRoot}, {d{"": d{"length": 0, "pieces root": 0}}, api.ErrMetaRoot}, {d{"": d{"length": 0, "pieces root": d{}}}, api.ErrMetaRoot},
		{d{"": d{"length": 1}}, api.ErrMetaRoot}, {told(1, ""), api.ErrMetaRoot}, {told(1, anyRoot[1:]), api.ErrMetaRoot}, {told(1<<40, anyRoot+"r"), api.ErrMetaRoot}, {d{"": d{"length": 1, "pieces root": 32}}, api.ErrMetaRoot}, {d{"": d{"length": 1, "pieces root": l{anyRoot}}}, api.ErrMetaRoot},
		{d{"z": 0}, api.ErrMetaTree}, {d{"a": none, "z": d{}}, api.ErrMetaTree}, {d{"\x01": none}, api.ErrNameByte}, {d{"z": d{"z": told(1, "")}}, api.ErrMetaRoot},
	}
)

// badSteps are bad pairs, with keys about the good one m.
func badSteps() []step {
	all := []step{{"", none, api.ErrMetaTree}, {"", 0, api.ErrMetaTree}}
	for key, e := range badKeys {
		// The Val is not looked at behind a bad Key.
		all = append(all, step{key, none, e}, step{key, 0, e}, step{key, d{}, e}, step{key, told(-1, ""), e})
	}
	for _, v := range badVals {
		all = append(all, step{"b", v.val, v.e}, step{"y", v.val, v.e})
	}
	return all
}

func noTree(t *testing.T, files d, want api.Errno) {
	t.Helper()
	noText(t, own, textOf(outline(64, files, d{})), want)
}

// P8.1, the walk: each bad pair, ahead of good ones and behind them, in the outermost folder and in inner ones.
func TestWalkFaults(t *testing.T) {
	noTree(t, d{}, api.ErrMetaTree)
	for _, s := range badSteps() {
		noTree(t, d{s.key: s.val}, s.e)
		noTree(t, d{s.key: s.val, "m": none}, s.e)
		if s.key != "" {
			noTree(t, d{"m": d{s.key: s.val}}, s.e)
			noTree(t, d{"a": none, "m": d{"m": d{s.key: s.val, "m": none}}, "z": none}, s.e)
		}
	}
}

// P8.1, the walk: of two bad pairs the one that is met first counts, whatever it is.
func TestWalkOrder(t *testing.T) {
	all := badSteps()
	for _, s := range all {
		for _, u := range all {
			if s.key >= u.key {
				continue
			}
			text := textOf(outline(64, d{s.key: s.val, "m": none, u.key: u.val}, d{}))
			if _, e := meta.Parse(own, []byte(text)); e != s.e {
				t.Fatalf("Parse(%.500q) = %d, want %d", text, e, s.e)
			}
			if s.key == "" {
				continue
			}
			// A folder is gone over ahead of the next pair.
			for key, first := range map[string]api.Errno{"l": u.e, "n": s.e} {
				text := textOf(outline(64, d{"m": d{"k": d{s.key: s.val}}, key: d{u.key: u.val, "zz": none}}, d{}))
				if _, e := meta.Parse(own, []byte(text)); e != first {
					t.Fatalf("Parse(%.500q) = %d, want %d", text, e, first)
				}
			}
		}
	}
}

// deep is a file or another thing behind so many keys.
func deep(keys int, last string, v any) d {
	x := d{last: v}
	for range keys - 1 {
		x = d{"a": x}
	}
	return x
}

// P8.1, the walk: paths of as many components as there may be, and of one more. That is looked at behind the Key and ahead of the Val.
func TestWalkDeep(t *testing.T) {
	for n := 1; n <= 16; n++ {
		m := api.Meta{Name: "x", PieceLen: 64, Files: []api.File{{}}}
		for range n - 1 {
			m.Files[0].Path = append(m.Files[0].Path, "a")
		}
		m.Files[0].Path = append(m.Files[0].Path, "b")
		parses(t, own, textOf(outline(64, deep(n, "b", none), d{})), m)
	}
	for _, v := range []any{none, 0, d{}, told(-1, ""), d{"b": none}, d{"": 0, "b": 0}} {
		noTree(t, deep(17, "b", v), api.ErrPathDeep)
		noTree(t, deep(17, "/", v), api.ErrNameByte)
		noTree(t, deep(16, "..", v), api.ErrNameDot)
		noTree(t, deep(17, "", v), api.ErrMetaTree)
	}
	noTree(t, deep(18, "b", none), api.ErrPathDeep)
	noTree(t, deep(27, "b", none), api.ErrPathDeep)
	// Deeper ones are no text any more.
	noTree(t, deep(29, "b", none), api.ErrTextDepth)
	noTree(t, deep(16, "b", 0), api.ErrMetaTree)
}

// P8.1: components at the edges of their length.
func TestWalkNames(t *testing.T) {
	for _, n := range []int{1, 254, 255, 256} {
		name := strings.Repeat("n", n)
		x := outline(64, d{name: none}, d{})
		infoOf(x)["name"] = name
		if n > 255 {
			noText(t, own, textOf(x), api.ErrNameLong)
			continue
		}
		parses(t, own, textOf(x), api.Meta{Name: name, PieceLen: 64, Files: []api.File{{Path: []string{name}}}})
	}
}

// P8.1: the order of the files is that of the walk, not that of joined paths.
func TestWalkFiles(t *testing.T) {
	x := outline(64, d{"a!": none, "a": d{"z": none, "b": d{"c": none}, "b ": none}, "B": none, "aa": none, "\xc3\xa9": none}, d{})
	m := api.Meta{Name: "x", PieceLen: 64}
	for _, p := range []string{"B", "a/b/c", "a/b ", "a/z", "a!", "aa", "é"} {
		m.Files = append(m.Files, api.File{Path: strings.Split(p, "/")})
	}
	parses(t, own, textOf(x), m)
}

// P8.1: a root must be a hash at the scale, whatever else it is.
func TestRootWidth(t *testing.T) {
	for width := 1; width <= 32; width++ {
		sc := api.Scale{Block: 64, Width: width}
		for at := range 32 {
			var h api.Hash
			h[at] = 1
			x := outline(64, d{"a": none, "b": told(100, string(h[:]))}, d{})
			m := api.Meta{Name: "x", PieceLen: 64, Files: []api.File{{Path: []string{"a"}}, {Path: []string{"b"}, Len: 100, Root: h}}}
			if at < width {
				parses(t, sc, textOf(x), m)
			} else {
				noText(t, sc, textOf(x), api.ErrMetaRoot)
				noMeta(t, sc, m, api.ErrMetaRoot)
			}
		}
	}
	var zero api.Hash
	parses(t, own, textOf(outline(64, d{"b": told(100, string(zero[:]))}, d{})), api.Meta{Name: "x", PieceLen: 64, Files: []api.File{{Path: []string{"b"}, Len: 100}}})
}

// manyFiles are so many files of so many bytes each.
func manyFiles(n, length int) (d, []api.File) {
	x, files := d{}, []api.File(nil)
	for i := range n {
		f := api.File{Path: []string{fmt.Sprintf("%05d", i)}, Len: length}
		x[f.Path[0]] = none
		if length > 0 {
			f.Root = api.Hash([]byte(anyRoot))
			x[f.Path[0]] = told(length, anyRoot)
		}
		files = append(files, f)
	}
	return x, files
}

// P8.1, P8.2: as many files as there may be, one less, and more.
func TestMaxFiles(t *testing.T) {
	for _, n := range []int{1, 4095, 4096, 4097, 8192, 30000} {
		x, files := manyFiles(n, 0)
		m := api.Meta{Name: "x", PieceLen: 64, Files: files}
		text := textOf(outline(64, x, d{}))
		if n <= 4096 {
			parses(t, own, text, m)
			continue
		}
		noText(t, own, text, api.ErrPathMany)
		noMeta(t, own, m, api.ErrPathMany)
		// The walk goes on behind the last file that may be.
		x["z"] = told(1, "")
		noTree(t, x, api.ErrMetaRoot)
	}
	// The files in folders count too.
	x, files := manyFiles(2048, 0)
	y := d{"a": x, "b": x}
	m := api.Meta{Name: "x", PieceLen: 64}
	for _, folder := range []string{"a", "b"} {
		for _, f := range files {
			m.Files = append(m.Files, api.File{Path: []string{folder, f.Path[0]}})
		}
	}
	parses(t, own, textOf(outline(64, y, d{})), m)
	y["c"] = none
	noTree(t, y, api.ErrPathMany)
	m.Files = append(m.Files, api.File{Path: []string{"c"}})
	noMeta(t, own, m, api.ErrPathMany)
}

// P8.1, P8.2: as many pieces as there may be, one less, and more, in one file and in several.
func TestMaxPieces(t *testing.T) {
	for _, c := range []struct {
		pieceLen, files, length int
		more                    int // bytes of one file more
		ok                      bool
	}{
		{64, 1, 64*65535 - 1, 0, true}, {64, 1, 64 * 65536, 0, true}, {64, 1, 64*65536 - 63, 0, true}, {64, 1, 64*65536 + 1, 0, false}, {64, 1, 1 << 40, 0, false},
		{64, 1, 64 * 65535, 64, true}, {64, 1, 64 * 65536, 1, false}, {64, 1, 64*65535 + 1, 1, false}, {64, 1, 64 * 65535, 65, false},
		{128, 1, 128 * 65536, 0, true}, {128, 1, 128*65536 + 1, 0, false}, {65536, 1, 65536 * 65536, 0, true}, {65536, 1, 65536*65536 + 1, 0, false},
		{64, 4095, 16 * 64, 16 * 64, true}, {64, 4095, 16*64 - 63, 16 * 64, true}, {64, 4095, 16 * 64, 16*64 + 1, false}, {64, 4096, 16 * 64, 0, true}, {64, 4096, 16*64 + 1, 0, false}, {64, 4096, 1, 0, true},
		{64, 4096, 1 << 40, 0, false},
	} {
		x, files := manyFiles(c.files, c.length)
		m := api.Meta{Name: "x", PieceLen: c.pieceLen, Files: files}
		if c.more > 0 {
			x["z"] = told(c.more, anyRoot)
			m.Files = append(files, api.File{Path: []string{"z"}, Len: c.more, Root: api.Hash([]byte(anyRoot))})
		}
		text := textOf(outline(c.pieceLen, x, d{}))
		if c.ok {
			parses(t, own, text, m)
		} else {
			noText(t, own, text, api.ErrPathMany)
			noMeta(t, own, m, api.ErrPathMany)
		}
	}
}

// P8.1, P8.2: a file as long as it may be is one of just as many pieces as there may be, where these are the longest.
func TestMaxLen(t *testing.T) {
	sc := api.Scale{Block: 16384, Width: 32}
	for _, length := range []int{1<<40 - 1, 1 << 40, 1<<40 + 1, math.MaxInt, -1, math.MinInt} {
		m := api.Meta{Name: "x", PieceLen: 1 << 24, Files: []api.File{{Path: []string{"a"}, Len: length, Root: api.Hash([]byte(anyRoot))}}}
		text := textOf(outline(1<<24, d{"a": told(length, anyRoot)}, d{}))
		if length > 0 && length <= 1<<40 {
			parses(t, sc, text, m)
		} else {
			noText(t, sc, text, api.ErrMetaLength)
			noMeta(t, sc, m, api.ErrMetaLength)
		}
	}
}
