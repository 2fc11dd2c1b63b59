package meta_test

import (
	"bytes"
	"crypto/sha256"
	"fmt"
	"maps"
	"math"
	"math/rand"
	"reflect"
	"slices"
	"strings"
	"testing"

	"torrent/api"
	"torrent/meta"
)

var (
	own    = api.Scale{Block: 64, Width: 32}
	narrow = api.Scale{Block: 64, Width: 1}
	scales = []api.Scale{own, narrow, {Block: 128, Width: 2}, {Block: 16384, Width: 31}}
	// wrongs are scales that are not good, by their Block or their Width.
	wrongs = []api.Scale{
		{}, {Block: 63, Width: 32}, {Block: 32, Width: 32}, {Block: 96, Width: 1}, {Block: 32768, Width: 32}, {Block: -64, Width: 32},
		{Block: math.MinInt, Width: 32}, {Block: math.MaxInt, Width: 32}, {Block: 64, Width: 0}, {Block: 64, Width: 33}, {Block: 64, Width: math.MinInt}, {Block: 64, Width: math.MaxInt},
	}
)

// d and l are a dictionary and a list ahead of their text; numbers are ints, strings strings.
type (
	d = map[string]any
	l = []any
)

// textOf writes a text without the program's help.
func textOf(v any) string {
	var s strings.Builder
	switch x := v.(type) {
	case int:
		fmt.Fprintf(&s, "i%de", x)
	case string:
		fmt.Fprintf(&s, "%d:%s", len(x), x)
	case l:
		s.WriteString("l")
		for _, y := range x {
			s.WriteString(textOf(y))
		}
		s.WriteString("e")
	case d:
		s.WriteString("d")
		for _, k := range slices.Sorted(maps.Keys(x)) {
			s.WriteString(textOf(k) + textOf(x[k]))
		}
		s.WriteString("e")
	default:
		panic(v)
	}
	return s.String()
}

// valueOf is the same as a value.
func valueOf(v any) api.Value {
	switch x := v.(type) {
	case int:
		return api.Value{Kind: api.KindInt, Int: x}
	case string:
		return api.Value{Kind: api.KindStr, Str: x}
	case l:
		all := api.Value{Kind: api.KindList}
		for _, y := range x {
			all.List = append(all.List, valueOf(y))
		}
		return all
	case d:
		return api.Value{Kind: api.KindDict, Dict: pairsOf(x)}
	}
	panic(v)
}

func pairsOf(x d) []api.Pair {
	var all []api.Pair
	for _, k := range slices.Sorted(maps.Keys(x)) {
		all = append(all, api.Pair{Key: k, Val: valueOf(x[k])})
	}
	return all
}

// nest is a number in so many lists.
func nest(n int) any {
	var v any = 7
	for range n {
		v = l{v}
	}
	return v
}

// same tells whether two things are the same, empty lists and nil ones being so.
func same(a, b any) bool {
	return reflect.DeepEqual(bare(reflect.ValueOf(a)), bare(reflect.ValueOf(b)))
}

// bare is a copy in which no list is empty.
func bare(v reflect.Value) any {
	c := reflect.New(v.Type()).Elem()
	c.Set(v)
	switch v.Kind() {
	case reflect.Slice:
		c.SetZero()
		if v.Len() > 0 {
			c.Set(reflect.MakeSlice(v.Type(), v.Len(), v.Len()))
		}
		for i := range v.Len() {
			c.Index(i).Set(reflect.ValueOf(bare(v.Index(i))))
		}
	case reflect.Struct:
		for i := range v.NumField() {
			c.Field(i).Set(reflect.ValueOf(bare(v.Field(i))))
		}
	}
	return c.Interface()
}

// sum is the digest at a scale, by Go's own SHA-256.
func sum(sc api.Scale, b []byte) api.Hash {
	h := api.Hash(sha256.Sum256(b))
	clear(h[sc.Width:])
	return h
}

func two(sc api.Scale, a, b api.Hash) api.Hash { return sum(sc, slices.Concat(a[:], b[:])) }

// fold is the root of a tree of 2^h nodes over a row, with zero where it has ended.
func fold(sc api.Scale, row []api.Hash, h int, zero api.Hash) api.Hash {
	if h == 0 && len(row) == 0 {
		return zero
	}
	if h == 0 {
		return row[0]
	}
	half := min(len(row), 1<<(h-1))
	return two(sc, fold(sc, row[:half], h-1, zero), fold(sc, row[half:], h-1, zero))
}

// rise is the least number of doublings that make n or more out of 1.
func rise(n int) int {
	h := 0
	for 1<<h < n {
		h++
	}
	return h
}

// over is the root over the hashes of pieces.
func over(sc api.Scale, pieceLen int, hashes []api.Hash) api.Hash {
	zero := fold(sc, nil, rise(pieceLen/sc.Block), api.Hash{})
	return fold(sc, hashes, rise(len(hashes)), zero)
}

func leaves(sc api.Scale, data []byte) []api.Hash {
	var row []api.Hash
	for b := range slices.Chunk(data, sc.Block) {
		row = append(row, sum(sc, b))
	}
	return row
}

// rootOf is the root of a file's bytes; that of none is zero.
func rootOf(sc api.Scale, data []byte) api.Hash {
	row := leaves(sc, data)
	return fold(sc, row, rise(len(row)), api.Hash{})
}

// layerOf are the hashes of a file's pieces.
func layerOf(sc api.Scale, pieceLen int, data []byte) []api.Hash {
	var row []api.Hash
	for p := range slices.Chunk(data, pieceLen) {
		row = append(row, fold(sc, leaves(sc, p), rise(pieceLen/sc.Block), api.Hash{}))
	}
	return row
}

func glued(hashes []api.Hash) string {
	var s strings.Builder
	for _, h := range hashes {
		s.Write(h[:])
	}
	return s.String()
}

// entry is what stands in a folder for a file of these bytes.
func entry(sc api.Scale, data []byte) d {
	if len(data) == 0 {
		return d{"": d{"length": 0}}
	}
	root := rootOf(sc, data)
	return d{"": d{"length": len(data), "pieces root": string(root[:])}}
}

// told is what stands in a folder for a file of which only this is told.
func told(length int, root string) d { return d{"": d{"length": length, "pieces root": root}} }

var none = d{"": d{"length": 0}}

// outline is a metainfo with these files and layers, the keys of the format alone.
func outline(pieceLen int, files, layers d) d {
	return d{"info": d{"file tree": files, "meta version": 2, "name": "x", "piece length": pieceLen}, "piece layers": layers}
}

func infoOf(x d) d { return x["info"].(d) }

func treeOf(x d) d { return infoOf(x)["file tree"].(d) }

func layersOf(x d) d { return x["piece layers"].(d) }

func content(r *rand.Rand, n int) []byte {
	b := make([]byte, n)
	r.Read(b)
	return b
}

// sampleFiles are the bytes of the sample's files: two large ones, an empty one, one shorter than a piece and one that just fills it.
func sampleFiles() (a, c, e, f []byte) {
	return bytes.Repeat([]byte("a"), 300), bytes.Repeat([]byte("c"), 257), []byte("0123456789"), bytes.Repeat([]byte("f"), 128)
}

// sample is a metainfo with all that one may have, at the scale own, in new memory each time.
func sample() d {
	a, c, e, f := sampleFiles()
	first := entry(own, a)
	first[""].(d)["attr"] = "x"
	x := outline(128, d{"a": first, "b": d{"c": entry(own, c), "d": d{"z": none}}, "b!": entry(own, e), "é": entry(own, f)}, d{})
	for _, data := range [][]byte{a, c} {
		root := rootOf(own, data)
		layersOf(x)[string(root[:])] = glued(layerOf(own, 128, data))
	}
	infoOf(x)["private"] = 1
	infoOf(x)["info"] = d{"pieces": l{}}
	x["comment"] = l{"hello", -7, d{"k": d{}}}
	return x
}

// sampleMeta is what the sample is read as.
func sampleMeta() api.Meta {
	a, c, e, f := sampleFiles()
	m := api.Meta{Name: "x", PieceLen: 128, Files: []api.File{
		{Path: []string{"a"}, Len: 300, Root: rootOf(own, a), More: pairsOf(d{"attr": "x"})},
		{Path: []string{"b", "c"}, Len: 257, Root: rootOf(own, c)},
		{Path: []string{"b", "d", "z"}},
		{Path: []string{"b!"}, Len: 10, Root: rootOf(own, e)},
		{Path: []string{"é"}, Len: 128, Root: rootOf(own, f)},
	}, Info: pairsOf(d{"private": 1, "info": d{"pieces": l{}}}), Top: pairsOf(d{"comment": l{"hello", -7, d{"k": d{}}}})}
	for _, data := range [][]byte{a, c} {
		m.Layers = append(m.Layers, api.Layer{Root: rootOf(own, data), Hashes: layerOf(own, 128, data)})
	}
	sortLayers(m)
	return m
}

func sortLayers(m api.Meta) {
	slices.SortFunc(m.Layers, func(a, b api.Layer) int { return bytes.Compare(a.Root[:], b.Root[:]) })
}

// short is the beginning of what is told of a metainfo, for messages.
func short(m api.Meta) string {
	s := fmt.Sprintf("%q %d %q %v %v %v", m.Name, m.PieceLen, paths(m), m.Layers, m.Info, m.Top)
	return s[:min(len(s), 300)]
}

func paths(m api.Meta) [][]string {
	var all [][]string
	for _, f := range m.Files {
		all = append(all, f.Path)
	}
	return all
}

// parses fails the test unless a text is read as this metainfo, and this one written as the text.
func parses(t *testing.T, sc api.Scale, text string, want api.Meta) {
	t.Helper()
	if m, e := meta.Parse(sc, []byte(text)); e != api.OK || !same(m, want) {
		t.Errorf("Parse(%.300q) = %s, %d, want %s", text, short(m), e, short(want))
	}
	if b, e := meta.Print(sc, want); e != api.OK || string(b) != text {
		t.Errorf("Print(%s) = %.300q, %d, want %.300q", short(want), b, e, text)
	}
	if e := meta.Check(sc, want); e != api.OK {
		t.Errorf("Check(%s) = %d", short(want), e)
	}
}

// noText fails the test unless the calls that take a text refuse it so, and answer nothing else.
func noText(t *testing.T, sc api.Scale, text string, want api.Errno) {
	t.Helper()
	m, e := meta.Parse(sc, []byte(text))
	h, f := meta.Infohash(sc, []byte(text))
	if e != want || f != want || h != (api.Hash{}) || !same(m, api.Meta{}) {
		t.Errorf("Parse(%.500q) = %d, Infohash %d, want %d, or something is answered beside it", text, e, f, want)
	}
}

// noMeta fails the test unless the calls that take a metainfo refuse it so, and answer nothing else.
func noMeta(t *testing.T, sc api.Scale, m api.Meta, want api.Errno) {
	t.Helper()
	b, e := meta.Print(sc, m)
	lacks, f := meta.Lacks(sc, m)
	n, g := meta.Supply(sc, m, -1, nil)
	if c := meta.Check(sc, m); c != want || e != want || f != want || g != want || len(b)+len(lacks) > 0 || !same(n, api.Meta{}) {
		t.Errorf("Check(%s) = %d, Print %d, Lacks %d, Supply %d, want %d, or something is answered beside it", short(m), c, e, f, g, want)
	}
}
