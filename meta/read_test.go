package meta_test

import (
	"fmt"
	"math"
	"strings"
	"testing"

	"torrent/api"
	"torrent/meta"
)

// P8.1, P8.3: a metainfo with all that one may have.
func TestSample(t *testing.T) { parses(t, own, textOf(sample()), sampleMeta()) }

// P8.1: the examples of the chapter.
func TestParseExamples(t *testing.T) {
	r := strings.Repeat("R", 32)
	root := api.Hash([]byte(r))
	head, tail := "d4:infod9:file tree", "12:meta versioni2e4:name1:x12:piece lengthi64ee12:piece layersdee"
	for text, want := range map[string]api.Errno{
		"i0e": api.ErrMetaShape, "de": api.ErrMetaShape, "d4:infodee": api.ErrMetaShape,
		"d4:infod6:pieces0:e12:piece layersdee": api.ErrMetaHybrid, "d4:infode12:piece layersdee": api.ErrMetaShape,
		head + "de12:meta versioni1e4:name1:x12:piece lengthi64ee12:piece layersdee": api.ErrMetaVersion,
		head + "de12:meta versioni2e4:name1:x12:piece lengthi96ee12:piece layersdee": api.ErrMetaPiece,
		head + "de12:meta versioni2e4:name1:x12:piece lengthi32ee12:piece layersdee": api.ErrMetaPiece,
		head + "de12:meta versioni2e4:name1:x12:piece lengthi0ee12:piece layersdee":  api.ErrMetaPiece,
		head + "de" + tail:                                                 api.ErrMetaTree,
		head + "d1:ad0:d6:lengthi5eeee" + tail:                             api.ErrMetaRoot,
		head + "d1:ad0:d6:lengthi0ee1:bd0:d6:lengthi0eeeee" + tail:         api.ErrMetaTree,
		head + "d0:d6:lengthi0eee" + tail:                                  api.ErrMetaTree,
		head + "d2:..d0:d6:lengthi0eeee" + tail:                            api.ErrNameDot,
		textOf(outline(64, d{"a": told(64, r)}, d{r: r})):                  api.ErrMetaLayer,
		textOf(outline(64, d{"a": told(64, r)}, d{r: ""})):                 api.ErrMetaLayer,
		textOf(outline(64, d{"a": told(64, r), "b": none}, d{r: r + r})):   api.ErrMetaLayer,
		textOf(outline(64, d{"a": d{"": d{"length": 0}, "b": none}}, d{})): api.ErrMetaTree,
	} {
		noText(t, own, text, want)
	}
	one := api.Meta{Name: "x", PieceLen: 64, Files: []api.File{{Path: []string{"a"}}}}
	parses(t, own, head+"d1:ad0:d6:lengthi0eeee"+tail, one)
	one.Files[0].More = pairsOf(d{"attr": "x"})
	parses(t, own, head+"d1:ad0:d4:attr1:x6:lengthi0eeee"+tail, one)
	one.Files[0] = api.File{Path: []string{"a"}, Len: 5, Root: root}
	parses(t, own, head+"d1:ad0:d6:lengthi5e11:pieces root32:"+r+"eee"+tail, one)
	one.Files[0].Len = 65
	large := textOf(outline(64, d{"a": told(65, r)}, d{}))
	parses(t, own, large, one)
	if lacks, e := meta.Lacks(own, one); e != api.OK || !same(lacks, []int{0}) {
		t.Errorf("Lacks = %v, %d", lacks, e)
	}
	whole := api.Meta{Name: "t", PieceLen: 64, Files: []api.File{{Path: []string{"a"}}}}
	parses(t, own, "d4:infod9:file treed1:ad0:d6:lengthi0eeee12:meta versioni2e4:name1:t12:piece lengthi64ee12:piece layersdee", whole)
}

// wrong is a fault, by the step of P8.1 at which it is met, and what it does to a metainfo.
type wrong struct {
	step int
	name string
	do   func(x d)
	e    api.Errno
}

// shapeFaults are those of the steps 2 to 4.
func shapeFaults() []wrong {
	var all []wrong
	add := func(step int, e api.Errno, name string, do func(x d)) { all = append(all, wrong{step, name, do, e}) }
	for _, key := range []string{"info", "piece layers"} {
		add(2, api.ErrMetaShape, "no "+key, func(x d) { delete(x, key) })
		for _, v := range []any{0, "de", l{d{}}} {
			add(2, api.ErrMetaShape, fmt.Sprint(key, " is ", v), func(x d) { x[key] = v })
		}
	}
	for _, key := range []string{"files", "length", "pieces"} {
		for _, v := range []any{0, "", l{}, d{}} {
			add(3, api.ErrMetaHybrid, fmt.Sprint(key, " is ", v), func(x d) { infoOf(x)[key] = v })
		}
	}
	for key, kinds := range map[string][]any{
		"file tree": {0, "de", l{d{"a": none}}}, "meta version": {"2", l{2}, d{"2": 2}}, "name": {0, l{"x"}, d{"x": "x"}}, "piece length": {"64", l{64}, d{"": 64}},
	} {
		add(4, api.ErrMetaShape, "no "+key, func(x d) { delete(infoOf(x), key) })
		for _, v := range kinds {
			add(4, api.ErrMetaShape, fmt.Sprint(key, " is ", v), func(x d) { infoOf(x)[key] = v })
		}
	}
	return all
}

// fieldFaults are those of the steps 5 to 7.
func fieldFaults() []wrong {
	var all []wrong
	add := func(step int, e api.Errno, key string, v any) {
		all = append(all, wrong{step, fmt.Sprintf("%s is %.20v", key, v), func(x d) { infoOf(x)[key] = v }, e})
	}
	for _, n := range []int{0, 1, 3, -2, math.MinInt, math.MaxInt} {
		add(5, api.ErrMetaVersion, "meta version", n)
	}
	for _, n := range []int{0, 1, 2, 32, 63, 65, 96, 192, 65535, 65537, 131072, -1, -64, -128, math.MinInt, math.MaxInt, 1 << 62} {
		add(6, api.ErrMetaPiece, "piece length", n)
	}
	for s, e := range map[string]api.Errno{
		"": api.ErrNameEmpty, strings.Repeat("a", 256): api.ErrNameLong, "a\xff": api.ErrNameUtf8, ".": api.ErrNameDot, "..": api.ErrNameDot, "a/b": api.ErrNameByte, "\x00": api.ErrNameByte,
	} {
		add(7, e, "name", s)
	}
	return all
}

// contentFaults are those of the steps 8 to 10; the single faults of a file tree and of layers have tests of their own.
func contentFaults() []wrong {
	var all []wrong
	add := func(step int, e api.Errno, name string, do func(x d)) { all = append(all, wrong{step, name, do, e}) }
	add(8, api.ErrMetaTree, "no files", func(x d) { clear(treeOf(x)) })
	add(8, api.ErrNameByte, "a bad name", func(x d) { treeOf(x)["\\"] = none })
	add(8, api.ErrMetaLength, "a bad length", func(x d) { treeOf(x)["z"] = told(-1, "") })
	add(8, api.ErrMetaRoot, "a bad root", func(x d) { treeOf(x)["z"] = told(1, "") })
	add(9, api.ErrPathMany, "many files", func(x d) {
		for i := range 4097 {
			treeOf(x)[fmt.Sprint("many", i)] = none
		}
	})
	add(9, api.ErrPathMany, "many pieces", func(x d) { treeOf(x)["many"] = told(65537*128, strings.Repeat("r", 32)) })
	add(10, api.ErrMetaLayer, "a short key", func(x d) { layersOf(x)["k"] = "" })
	add(10, api.ErrMetaLayer, "a key of nothing", func(x d) { layersOf(x)[strings.Repeat("k", 32)] = "" })
	return all
}

// P8.1, P0.2: each fault by itself, and each two of unlike steps: the first step counts.
func TestParseSteps(t *testing.T) {
	all := append(append(shapeFaults(), fieldFaults()...), contentFaults()...)
	for _, f := range all {
		x := sample()
		f.do(x)
		text := textOf(x)
		if _, e := meta.Parse(own, []byte(text)); e != f.e {
			t.Errorf("%s: %d, want %d", f.name, e, f.e)
		}
		noText(t, own, text, f.e)
		noText(t, own, text+"e", api.ErrTextTrail)
		noText(t, own, text[:len(text)-1], api.ErrTextEnd)
	}
	for _, f := range all {
		for _, g := range all {
			if f.step >= g.step {
				continue
			}
			x := sample()
			g.do(x)
			f.do(x)
			if _, e := meta.Parse(own, []byte(textOf(x))); e != f.e {
				t.Errorf("%s, %s: %d, want %d", f.name, g.name, e, f.e)
			}
		}
	}
}

// P8.1: what is no text, or one of no dictionary.
func TestParseNoText(t *testing.T) {
	text := textOf(sample())
	for s, want := range map[string]api.Errno{
		"": api.ErrTextEnd, "x": api.ErrTextByte, "i01e": api.ErrTextNumber, "d1:bi1e1:ai2ee": api.ErrTextKey, "dee": api.ErrTextTrail,
		strings.Repeat("l", 33):                 api.ErrTextDepth,
		strings.Repeat("x", api.MaxText+1):      api.ErrTextLong,
		text + strings.Repeat("x", api.MaxText): api.ErrTextLong,
		"i2e":                                   api.ErrMetaShape, "4:info": api.ErrMetaShape, "le": api.ErrMetaShape, "l" + text + "e": api.ErrMetaShape, "d1:a" + text + "e": api.ErrMetaShape,
	} {
		noText(t, own, s, want)
	}
	noText(t, own, string([]byte(nil)), api.ErrTextEnd)
	for i := range text {
		if m, e := meta.Parse(own, []byte(text[:i])); e != api.ErrTextEnd || !same(m, api.Meta{}) {
			t.Fatalf("the first %d bytes: %d", i, e)
		}
	}
}

// P0.8: what is no scale is refused ahead of all else.
func TestScale(t *testing.T) {
	m := sampleMeta()
	for _, sc := range wrongs {
		for _, text := range []string{textOf(sample()), "", "i0e", "d4:infodee"} {
			noText(t, sc, text, api.ErrScale)
		}
		noMeta(t, sc, m, api.ErrScale)
		noMeta(t, sc, api.Meta{}, api.ErrScale)
		noMeta(t, sc, api.Meta{PieceLen: 96}, api.ErrScale)
		for _, file := range []int{-1, 0, 4, 5} {
			if n, e := meta.Supply(sc, m, file, nil); e != api.ErrScale || !same(n, api.Meta{}) {
				t.Errorf("Supply at %v: %d", sc, e)
			}
		}
	}
}

// P8.1, P8.2: all piece lengths that may be, and what lies beside them.
func TestPieceLengths(t *testing.T) {
	for block := 64; block <= 16384; block *= 2 {
		sc := api.Scale{Block: block, Width: 7}
		for shift := range 63 {
			for _, n := range []int{1<<shift - 1, 1 << shift, 1<<shift + 1, 3 << shift, -1 << shift} {
				x := outline(n, d{"a": none}, d{})
				m := api.Meta{Name: "x", PieceLen: n, Files: []api.File{{Path: []string{"a"}}}}
				powerOfTwo := n > 0 && n&(n-1) == 0
				if powerOfTwo && n >= block && n <= 1024*block {
					parses(t, sc, textOf(x), m)
				} else {
					noText(t, sc, textOf(x), api.ErrMetaPiece)
					noMeta(t, sc, m, api.ErrMetaPiece)
				}
			}
		}
	}
}
