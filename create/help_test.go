package create_test

import (
	"bytes"
	"crypto/sha256"
	"fmt"
	"maps"
	"math"
	"math/rand"
	"reflect"
	"slices"
	"strings"

	"torrent/api"
)

var (
	own    = api.Scale{Block: 64, Width: 32}
	narrow = api.Scale{Block: 64, Width: 1}
	scales = []api.Scale{own, narrow, {Block: 128, Width: 2}, {Block: 16384, Width: 31}}
	// wrongs are scales that are not good, by their Block or their Width.
	wrongs = []api.Scale{
		{}, {Block: 63, Width: 32}, {Block: 32, Width: 32}, {Block: 96, Width: 1}, {Block: 32768, Width: 32}, {Block: -64, Width: 32},
		{Block: math.MinInt, Width: 32}, {Block: math.MaxInt, Width: 32}, {Block: 64, Width: 0}, {Block: 64, Width: 33}, {Block: 64, Width: math.MinInt}, {Block: 64, Width: math.MaxInt},
	}
	// aliens are numbers that no file, piece, block or byte has.
	aliens = []int{-1, -2, math.MinInt, 1 << 20, 1 << 45, math.MaxInt}
)

// some are n bytes, others for each seed.
func some(seed, n int) []byte {
	b := make([]byte, n)
	rand.New(rand.NewSource(int64(seed))).Read(b)
	return b
}

// lens is a metainfo of files a, b, .. of these lengths, with nothing that a map does not look at.
func lens(pieceLen int, l ...int) api.Meta {
	m := api.Meta{PieceLen: pieceLen}
	for i, n := range l {
		m.Files = append(m.Files, api.File{Path: []string{string(rune('a' + i))}, Len: n})
	}
	return m
}

// many are so many files of n bytes.
func many(files, n int) []api.File {
	all := make([]api.File, files)
	for i := range all {
		all[i].Len = n
	}
	return all
}

// four is the metainfo of the chapter's examples, as far as a map looks at it.
func four() api.Meta { return lens(128, 300, 0, 64, 129) }

// fourFiles are its files.
func fourFiles() []api.Source {
	return []api.Source{
		{Path: []string{"a"}, Data: some(1, 300)}, {Path: []string{"b"}},
		{Path: []string{"c"}, Data: some(2, 64)}, {Path: []string{"d"}, Data: some(3, 129)},
	}
}

// placesOf goes through the files and tells where each piece lies.
func placesOf(m api.Meta) []api.Place {
	var all []api.Place
	for i, f := range m.Files {
		nth := 0
		for from := 0; from < f.Len; from += m.PieceLen {
			all = append(all, api.Place{File: i, Nth: nth, From: from, Len: min(m.PieceLen, f.Len-from)})
			nth++
		}
	}
	return all
}

// sum is the digest at a scale, by Go's own SHA-256.
func sum(sc api.Scale, b []byte) api.Hash {
	h := api.Hash(sha256.Sum256(b))
	clear(h[sc.Width:])
	return h
}

// fold is the root of a tree of 2^h nodes over a row, with zero where it has ended.
func fold(sc api.Scale, row []api.Hash, h int, zero api.Hash) api.Hash {
	if h == 0 && len(row) == 0 {
		return zero
	}
	if h == 0 {
		return row[0]
	}
	half := min(len(row), 1<<(h-1))
	a, b := fold(sc, row[:half], h-1, zero), fold(sc, row[half:], h-1, zero)
	return sum(sc, slices.Concat(a[:], b[:]))
}

// rise is the least number of doublings that make n or more out of 1.
func rise(n int) int {
	h := 0
	for 1<<h < n {
		h++
	}
	return h
}

// leavesOf are the digests of the blocks.
func leavesOf(sc api.Scale, data []byte) []api.Hash {
	var row []api.Hash
	for b := range slices.Chunk(data, sc.Block) {
		row = append(row, sum(sc, b))
	}
	return row
}

// rootOf is the root of a file's bytes; that of none is zero.
func rootOf(sc api.Scale, data []byte) api.Hash {
	row := leavesOf(sc, data)
	return fold(sc, row, rise(len(row)), api.Hash{})
}

// layerOf are the hashes of a file's pieces.
func layerOf(sc api.Scale, pieceLen int, data []byte) []api.Hash {
	var row []api.Hash
	for p := range slices.Chunk(data, pieceLen) {
		row = append(row, fold(sc, leavesOf(sc, p), rise(pieceLen/sc.Block), api.Hash{}))
	}
	return row
}

// metaOf is the metainfo of files, made without the program. No two of them may have one root and two layers.
func metaOf(sc api.Scale, name string, pieceLen int, files []api.Source) api.Meta {
	m := api.Meta{Name: name, PieceLen: pieceLen}
	layers := map[api.Hash][]api.Hash{}
	for _, s := range files {
		f := api.File{Path: s.Path, Len: len(s.Data), Root: rootOf(sc, s.Data)}
		m.Files = append(m.Files, f)
		if len(s.Data) > pieceLen {
			layers[f.Root] = layerOf(sc, pieceLen, s.Data)
		}
	}
	slices.SortFunc(m.Files, func(a, b api.File) int { return slices.Compare(a.Path, b.Path) })
	for root, hashes := range layers {
		m.Layers = append(m.Layers, api.Layer{Root: root, Hashes: hashes})
	}
	slices.SortFunc(m.Layers, func(a, b api.Layer) int { return bytes.Compare(a.Root[:], b.Root[:]) })
	return m
}

// d is a dictionary ahead of its text; numbers are ints, strings strings.
type d = map[string]any

// textOf writes a text.
func textOf(v any) string {
	switch x := v.(type) {
	case int:
		return fmt.Sprintf("i%de", x)
	case string:
		return fmt.Sprintf("%d:%s", len(x), x)
	case d:
		var s strings.Builder
		for _, k := range slices.Sorted(maps.Keys(x)) {
			s.WriteString(textOf(k) + textOf(x[k]))
		}
		return "d" + s.String() + "e"
	}
	panic(v)
}

// metaText is the text of a metainfo that has no free keys.
func metaText(m api.Meta) string {
	tree, layers := d{}, d{}
	for _, f := range m.Files {
		folder := tree
		for _, c := range f.Path {
			if folder[c] == nil {
				folder[c] = d{}
			}
			folder = folder[c].(d)
		}
		entry := d{"length": f.Len}
		if f.Len > 0 {
			entry["pieces root"] = string(f.Root[:])
		}
		folder[""] = entry
	}
	for _, l := range m.Layers {
		var s strings.Builder
		for _, h := range l.Hashes {
			s.Write(h[:])
		}
		layers[string(l.Root[:])] = s.String()
	}
	info := d{"file tree": tree, "meta version": 2, "name": m.Name, "piece length": m.PieceLen}
	return textOf(d{"info": info, "piece layers": layers})
}

// same tells whether two things are the same, empty lists and nil ones being so.
func same(a, b any) bool {
	return reflect.DeepEqual(bare(reflect.ValueOf(a)), bare(reflect.ValueOf(b)))
}

// bare is a copy in which no list is empty.
func bare(v reflect.Value) any {
	c := reflect.New(v.Type()).Elem()
	c.Set(v)
	switch v.Kind() {
	case reflect.Slice:
		c.SetZero()
		if v.Len() > 0 {
			c.Set(reflect.MakeSlice(v.Type(), v.Len(), v.Len()))
		}
		for i := range v.Len() {
			c.Index(i).Set(reflect.ValueOf(bare(v.Index(i))))
		}
	case reflect.Struct:
		for i := range v.NumField() {
			c.Field(i).Set(reflect.ValueOf(bare(v.Field(i))))
		}
	}
	return c.Interface()
}

// someFiles are files made at random: some empty, some of one piece, some with the bytes of another.
func someFiles(r *rand.Rand, pieceLen int) []api.Source {
	var all []api.Source
	for i := range 1 + r.Intn(7) {
		path := []string{fmt.Sprintf("%c%d", 'a'+r.Intn(3), i)}
		if r.Intn(2) == 0 {
			path = []string{"dir", path[0], "x!"[r.Intn(2):]}
		}
		n := []int{0, 1, pieceLen, pieceLen + 1, r.Intn(pieceLen), r.Intn(5 * pieceLen)}[r.Intn(6)]
		data := some(r.Int(), n)
		if i > 0 && r.Intn(4) == 0 {
			data = all[r.Intn(i)].Data
		}
		all = append(all, api.Source{Path: path, Data: data})
	}
	return all
}

// shuffled are the files in another order.
func shuffled(r *rand.Rand, files []api.Source) []api.Source {
	all := slices.Clone(files)
	r.Shuffle(len(all), func(i, j int) { all[i], all[j] = all[j], all[i] })
	return all
}
