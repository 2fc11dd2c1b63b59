package meta_test

import (
	"reflect"
	"slices"
	"testing"

	"torrent/api"
	"torrent/meta"
)

// spoil writes over all that lies in lists within a thing, the spare room of the lists too.
func spoil(v reflect.Value) {
	switch v.Kind() {
	case reflect.Slice:
		whole := v.Slice3(0, v.Cap(), v.Cap())
		for i := range whole.Len() {
			spoil(whole.Index(i))
			spoilOne(whole.Index(i))
		}
	case reflect.Struct:
		for i := range v.NumField() {
			spoil(v.Field(i))
		}
	}
}

// spoilOne writes over what a list has at one place, but for the lists in it: these have been gone through.
func spoilOne(v reflect.Value) {
	switch v.Kind() {
	case reflect.String:
		v.SetString("spoilt")
	case reflect.Int:
		v.SetInt(99)
	case reflect.Uint8:
		v.SetUint(0xee)
	case reflect.Array:
		for i := range v.Len() {
			spoilOne(v.Index(i))
		}
	case reflect.Struct:
		for i := range v.NumField() {
			spoilOne(v.Field(i))
		}
	}
}

// roomy is a copy of a thing, all lists of which have spare room, with something in it that can be seen again.
func roomy(v reflect.Value) reflect.Value {
	c := reflect.New(v.Type()).Elem()
	c.Set(v)
	switch v.Kind() {
	case reflect.Slice:
		room := reflect.MakeSlice(v.Type(), v.Len()+2, v.Len()+2)
		for i := range v.Len() {
			room.Index(i).Set(roomy(v.Index(i)))
		}
		for i := v.Len(); i < room.Len(); i++ {
			spoilOne(room.Index(i))
		}
		c.Set(room.Slice(0, v.Len()))
	case reflect.Struct:
		for i := range v.NumField() {
			c.Field(i).Set(roomy(v.Field(i)))
		}
	}
	return c
}

// unrolled is a copy of a thing in which the spare room of lists belongs to them.
func unrolled(v reflect.Value) any {
	c := reflect.New(v.Type()).Elem()
	c.Set(v)
	switch v.Kind() {
	case reflect.Slice:
		whole := v.Slice3(0, v.Cap(), v.Cap())
		c.Set(reflect.MakeSlice(v.Type(), whole.Len(), whole.Len()))
		for i := range whole.Len() {
			c.Index(i).Set(reflect.ValueOf(unrolled(whole.Index(i))))
		}
	case reflect.Struct:
		for i := range v.NumField() {
			c.Field(i).Set(reflect.ValueOf(unrolled(v.Field(i))))
		}
	}
	return c.Interface()
}

func spoilMeta(m *api.Meta) { spoil(reflect.ValueOf(m).Elem()) }

func roomyMeta(m api.Meta) api.Meta { return roomy(reflect.ValueOf(m)).Interface().(api.Meta) }

// seen is all that a metainfo reaches, as it is now.
func seen(m api.Meta) any { return unrolled(reflect.ValueOf(m)) }

// P8.8, P0.4: a text that is read is not changed, and what was read does not change with it.
func TestTextStays(t *testing.T) {
	text := textOf(sample())
	room := []byte("ahead" + text + "behind")
	b := room[5 : 5+len(text)]
	m, e := meta.Parse(own, b)
	h, f := meta.Infohash(own, b)
	if e != api.OK || f != api.OK || string(room) != "ahead"+text+"behind" {
		t.Fatalf("a text has changed: %d, %d", e, f)
	}
	clear(room)
	if !same(m, sampleMeta()) || h != sum(own, []byte(textOf(sample()["info"]))) {
		t.Error("what was read has changed with the text")
	}
}

// P8.8, P0.5: what Parse and Supply answer is new memory, spare room too.
func TestAnswersAreNew(t *testing.T) {
	text := []byte(textOf(sample()))
	_, c, _, _ := sampleFiles()
	root, row := rootOf(own, c), layerOf(own, 128, c)
	given := sampleMeta()
	given.Layers = slices.DeleteFunc(given.Layers, func(x api.Layer) bool { return x.Root == root })
	given = roomyMeta(given)
	before := seen(given)
	calls := map[string]func() api.Meta{
		"Parse":  func() api.Meta { m, _ := meta.Parse(own, text); return m },
		"Supply": func() api.Meta { m, _ := meta.Supply(own, given, 1, row); return m },
	}
	for name, call := range calls {
		first, second := call(), call()
		if !same(first, sampleMeta()) || !same(second, sampleMeta()) {
			t.Fatalf("%s = %s", name, short(first))
		}
		spoilMeta(&first)
		third := call()
		if !same(second, sampleMeta()) || !same(third, sampleMeta()) || string(text) != textOf(sample()) || !reflect.DeepEqual(seen(given), before) || !slices.Equal(row, layerOf(own, 128, c)) {
			t.Errorf("what is written into an answer of %s is seen elsewhere", name)
		}
	}
}

// P0.5: no two lists of one answer share memory: what is appended to one is seen in no other.
func TestListsApart(t *testing.T) {
	m, _ := meta.Parse(own, []byte(textOf(sample())))
	for i := range m.Files {
		_ = append(m.Files[i].Path, "new")
		_ = append(m.Files[i].More, api.Pair{Key: "new"})
	}
	for i := range m.Layers {
		_ = append(m.Layers[i].Hashes, api.Hash{1})
	}
	_ = append(m.Info, api.Pair{Key: "new"})
	_ = append(m.Top, api.Pair{Key: "new"})
	_ = append(m.Files, api.File{Len: 1})
	_ = append(m.Layers, api.Layer{})
	if !same(m, sampleMeta()) {
		t.Errorf("what is appended to one list is seen in another: %s", short(m))
	}
	// b/c and b/d/z have a folder in common.
	m.Files[1].Path[0] = "other"
	if m.Files[2].Path[0] != "b" {
		t.Error("two paths share memory")
	}
}

// P8.8, P0.4: a metainfo that is handed in is not changed, its spare room neither, and not kept.
func TestMetaStays(t *testing.T) {
	whole := roomyMeta(sampleMeta())
	bare := roomyMeta(sampleMeta())
	bare.Layers = bare.Layers[:0] // the layers lie in the spare room now
	a, _, _, _ := sampleFiles()
	row := append(layerOf(own, 128, a), api.Hash{7})
	before, beforeBare, beforeRow := seen(whole), seen(bare), slices.Clone(row)
	b, e1 := meta.Print(own, whole)
	e2 := meta.Check(own, whole)
	lacks, e3 := meta.Lacks(own, bare)
	n, e4 := meta.Supply(own, bare, 0, row[:3])
	_, e5 := meta.Supply(own, bare, 0, row)
	if e1 != 0 || e2 != 0 || e3 != 0 || e4 != 0 || e5 != api.ErrMetaLayer {
		t.Fatal(e1, e2, e3, e4, e5)
	}
	if !reflect.DeepEqual(seen(whole), before) || !reflect.DeepEqual(seen(bare), beforeBare) || !slices.Equal(row, beforeRow) {
		t.Error("what is handed in has changed")
	}
	want := sampleMeta()
	want.Layers = []api.Layer{{Root: rootOf(own, a), Hashes: layerOf(own, 128, a)}}
	spoilMeta(&whole)
	spoilMeta(&bare)
	clear(row)
	if string(b) != textOf(sample()) || !slices.Equal(lacks, []int{0, 1}) || !same(n, want) {
		t.Error("an answer has changed with what was handed in")
	}
}

// P8.8, P0.5: texts and places are new memory, spare room too.
func TestPrintedIsNew(t *testing.T) {
	m := sampleMeta()
	m.Layers = nil
	a, _ := meta.Print(own, m)
	b, _ := meta.Print(own, m)
	x, _ := meta.Lacks(own, m)
	y, _ := meta.Lacks(own, m)
	text := string(b)
	clear(a[:cap(a)])
	clear(x[:cap(x)])
	c, _ := meta.Print(own, m)
	if string(b) != text || string(c) != text || !slices.Equal(y, []int{0, 1}) {
		t.Error("what is written into an answer is seen elsewhere")
	}
}

// P0.5: lists that are nil and lists that are empty are the same.
func TestNilIsEmpty(t *testing.T) {
	m := api.Meta{Name: "x", PieceLen: 64, Files: []api.File{{Path: []string{"a"}}}}
	n := api.Meta{Name: "x", PieceLen: 64, Files: []api.File{{Path: []string{"a"}, More: []api.Pair{}}}, Layers: []api.Layer{}, Info: []api.Pair{}, Top: []api.Pair{}}
	n.Top = append(n.Top, api.Pair{Key: "k", Val: api.Value{Kind: api.KindInt, List: []api.Value{}, Dict: []api.Pair{}}})
	m.Top = append(m.Top, api.Pair{Key: "k", Val: api.Value{Kind: api.KindInt}})
	a, e := meta.Print(own, m)
	b, f := meta.Print(own, n)
	if e != api.OK || f != api.OK || string(a) != string(b) {
		t.Errorf("%q, %d and %q, %d", a, e, b, f)
	}
	noText(t, own, string([]byte{}), api.ErrTextEnd)
	if _, e := meta.Parse(own, nil); e != api.ErrTextEnd {
		t.Errorf("Parse of nil: %d", e)
	}
	large := newTorrent(own, 64).file("a", 65, api.Hash{1}).m
	for _, row := range [][]api.Hash{nil, {}} {
		if _, e := meta.Supply(own, large, 0, row); e != api.ErrMetaLayer {
			t.Errorf("Supply of no hashes: %d", e)
		}
	}
}
