package create_test

import (
	"math/rand"
	"reflect"
	"slices"
	"testing"

	"torrent/api"
	"torrent/create"
)

// ground is the memory of one list, its spare room too.
type ground struct{ from, to uintptr }

// grounds are the memories of all lists that a thing reaches.
func grounds(v reflect.Value) []ground {
	var all []ground
	switch v.Kind() {
	case reflect.Slice:
		if v.Cap() > 0 {
			all = append(all, ground{v.Pointer(), v.Pointer() + uintptr(v.Cap())*v.Type().Elem().Size()})
		}
		whole := v.Slice3(0, v.Cap(), v.Cap())
		for i := range whole.Len() {
			all = append(all, grounds(whole.Index(i))...)
		}
	case reflect.Struct:
		for i := range v.NumField() {
			all = append(all, grounds(v.Field(i))...)
		}
	}
	return all
}

// apart tells whether no two lists of these things share any memory.
func apart(things ...any) bool {
	var all []ground
	for _, x := range things {
		all = append(all, grounds(reflect.ValueOf(x))...)
	}
	slices.SortFunc(all, func(a, b ground) int {
		if a.from < b.from {
			return -1
		}
		return 1
	})
	for i := 1; i < len(all); i++ {
		if all[i].from < all[i-1].to {
			return false
		}
	}
	return true
}

// roomy is a copy of a thing, all lists of which have spare room, with something in it that can be seen again.
func roomy[T any](x T) T { return roomyValue(reflect.ValueOf(x)).Interface().(T) }

func roomyValue(v reflect.Value) reflect.Value {
	c := reflect.New(v.Type()).Elem()
	c.Set(v)
	switch v.Kind() {
	case reflect.Slice:
		room := reflect.MakeSlice(v.Type(), v.Len()+2, v.Len()+2)
		for i := range v.Len() {
			room.Index(i).Set(roomyValue(v.Index(i)))
		}
		for i := v.Len(); i < room.Len(); i++ {
			mark(room.Index(i))
		}
		c.Set(room.Slice(0, v.Len()))
	case reflect.Struct:
		for i := range v.NumField() {
			c.Field(i).Set(roomyValue(v.Field(i)))
		}
	}
	return c
}

// mark writes something that can be seen again.
func mark(v reflect.Value) {
	switch v.Kind() {
	case reflect.String:
		v.SetString("room")
	case reflect.Int:
		v.SetInt(99)
	case reflect.Uint8:
		v.SetUint(0xee)
	case reflect.Array:
		for i := range v.Len() {
			mark(v.Index(i))
		}
	case reflect.Struct:
		for i := range v.NumField() {
			mark(v.Field(i))
		}
	}
}

// seen is a copy of a thing in which the spare room of lists belongs to them.
func seen(x any) any { return seenValue(reflect.ValueOf(x)) }

func seenValue(v reflect.Value) any {
	c := reflect.New(v.Type()).Elem()
	c.Set(v)
	switch v.Kind() {
	case reflect.Slice:
		whole := v.Slice3(0, v.Cap(), v.Cap())
		c.Set(reflect.MakeSlice(v.Type(), whole.Len(), whole.Len()))
		for i := range whole.Len() {
			c.Index(i).Set(reflect.ValueOf(seenValue(whole.Index(i))))
		}
	case reflect.Struct:
		for i := range v.NumField() {
			c.Field(i).Set(reflect.ValueOf(seenValue(v.Field(i))))
		}
	}
	return c.Interface()
}

// richMeta is a metainfo that has something in all its lists.
func richMeta() api.Meta {
	m := metaOf(own, "t", 128, fourFiles())
	word := []api.Pair{{Key: "word", Val: api.Value{Kind: api.KindList, List: []api.Value{{Kind: api.KindInt, Int: 3}}}}}
	m.Info, m.Top, m.Files[1].More = word, word, word
	return roomy(m)
}

// P9.14, P0.4, P0.5: no call changes what is handed in or its spare room, and no list of an answer shares memory with it, with another list of the answer or with another answer.
func TestMemory(t *testing.T) {
	m := richMeta()
	files := roomy(shuffled(rand.New(rand.NewSource(3)), append(fourFiles(), api.Source{Path: []string{"e", "f"}, Data: fourFiles()[0].Data})))
	ours := roomy(shuffled(rand.New(rand.NewSource(4)), fourFiles()))
	pieces := roomy(fourPieces())
	before := []any{seen(m), seen(files), seen(ours), seen(pieces)}
	var answers []any
	var errs []api.Errno
	for range 2 {
		list, e1 := create.List(own, m)
		built, e2 := create.Build(own, "t", 128, files)
		text, e3 := create.Create(own, "t", 128, files)
		cut, e4 := create.Slice(m, ours)
		glued, e5 := create.Glue(m, pieces)
		answers = append(answers, list, built, text, cut, glued)
		errs = append(errs, e1, e2, e3, e4, e5)
	}
	if slices.ContainsFunc(errs, func(e api.Errno) bool { return e != api.OK }) {
		t.Fatalf("errors: %v", errs)
	}
	if !apart(append(answers, m, files, ours, pieces)...) {
		t.Error("P9.14: an answer shares memory with an argument, with another answer, or within itself")
	}
	for i := range 5 {
		if !same(answers[i], answers[i+5]) {
			t.Errorf("P0.3: the answer %d is another the second time", i)
		}
	}
	create.Pieces(m)
	create.Row(m, 2)
	create.Where(m, 2)
	create.Blocks(own, m, 2)
	create.Block(own, m, 2, 0)
	create.At(m, 3, 128)
	create.Want(own, m, 2)
	if !reflect.DeepEqual(before, []any{seen(m), seen(files), seen(ours), seen(pieces)}) {
		t.Error("P9.14: something that was handed in has changed")
	}
}

// P9.14: with an error too nothing is changed.
func TestMemoryBesideErrors(t *testing.T) {
	m := richMeta()
	m.Layers[0], m.Layers[1] = m.Layers[1], m.Layers[0]
	x, y := sameRoots()
	files := roomy([]api.Source{y, x, {Path: []string{"a"}}})
	pieces := roomy(fourPieces()[:5])
	before := []any{seen(m), seen(files), seen(pieces)}
	_, e1 := create.List(own, m)
	_, e2 := create.Build(own, "t", 64, files)
	_, e3 := create.Create(own, "t", 64, files)
	_, e4 := create.Slice(m, files)
	_, e5 := create.Glue(m, pieces)
	_, _, e6 := create.Want(own, m, 0)
	want := []api.Errno{api.ErrMetaOrder, api.ErrMetaLayer, api.ErrMetaLayer, api.ErrGlue, api.ErrGlue, api.ErrMetaOrder}
	if got := []api.Errno{e1, e2, e3, e4, e5, e6}; !slices.Equal(got, want) {
		t.Errorf("errors: %v, want %v", got, want)
	}
	if !reflect.DeepEqual(before, []any{seen(m), seen(files), seen(pieces)}) {
		t.Error("P9.14: something that was handed in has changed")
	}
}

// P9.14: what one file's bytes become shares nothing with what the same bytes become as another file.
func TestSameBytesApart(t *testing.T) {
	data := some(1, 300)
	files := []api.Source{{Path: []string{"a"}, Data: data}, {Path: []string{"b"}, Data: data}}
	m, _ := create.Build(own, "t", 128, files)
	twice := lens(128, 300, 300)
	twice.Files[1].Path = twice.Files[0].Path
	pieces, e := create.Slice(m, files)
	both, f := create.Slice(twice, []api.Source{files[0], {Path: []string{"z"}}})
	glued, g := create.Glue(twice, [][]byte{data[:128], data[:128], data[:44], data[:128], data[:128], data[:44]})
	if e != api.OK || f != api.OK || g != api.OK || !apart(m, pieces, both, glued, data, twice.Files[0].Path) {
		t.Errorf("P9.14: shared memory: %d, %d, %d", e, f, g)
	}
}

// P0.5: empty lists and nil ones are the same.
func TestNilIsEmpty(t *testing.T) {
	a := []api.Source{{Path: []string{"a"}, Data: []byte{}}, {Path: []string{"b"}, Data: nil}}
	m, e := create.Build(own, "t", 64, a)
	b, f := create.Create(own, "t", 64, a)
	if e != api.OK || f != api.OK || !same(m, metaOf(own, "t", 64, a)) || string(b) != metaText(m) {
		t.Errorf("P9.8: empty files: %d, %d", e, f)
	}
	m.Layers, m.Info, m.Top, m.Files[0].More = []api.Layer{}, []api.Pair{}, []api.Pair{}, []api.Pair{}
	if l, e := create.List(own, m); len(l) != 0 || e != api.OK {
		t.Errorf("P9.7: empty files: %v, %d", l, e)
	}
	for _, files := range [][]api.Source{nil, {}} {
		_, e := create.Build(own, "t", 64, files)
		_, f := create.Slice(m, files)
		_, g := create.Slice(lens(64), files)
		if e != api.ErrMetaTree || f != api.ErrGlue || g != api.ErrMetaTree {
			t.Errorf("no files: %d, %d, %d", e, f, g)
		}
	}
	for _, pieces := range [][][]byte{nil, {}} {
		if g, e := create.Glue(m, pieces); !same(g, a) || e != api.OK {
			t.Errorf("P9.12: no pieces: %v, %d", g, e)
		}
	}
	odd := lens(64, 1, 0)
	odd.Files[0].Path, odd.Files[1].Path = nil, []string{"x"}
	if l, e := create.Slice(odd, []api.Source{{Path: []string{"x"}}, {Path: []string{}, Data: []byte{5}}}); !same(l, [][]byte{{5}}) || e != api.OK {
		t.Errorf("P9.11: a path of nothing: %v, %d", l, e)
	}
}
