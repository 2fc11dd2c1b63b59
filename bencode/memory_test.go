package bencode_test

import (
	"bytes"
	"testing"

	"torrent/api"
	"torrent/bencode"
)

const sample = "d1:ali1e3:xyzd1:ci3eee1:bd1:cl1:dee1:zlee"

// sampleValue is the value of sample, in new memory each time.
func sampleValue() api.Value {
	return dict(pair("a", list(num(1), str("xyz"), dict(pair("c", num(3))))), pair("b", dict(pair("c", list(str("d"))))), pair("z", list()))
}

// roomy lays a value into lists that have spare room, filled with something that can be seen again.
func roomy(v api.Value) api.Value {
	l := append(make([]api.Value, 0, len(v.List)+2), v.List...)
	for i, x := range l {
		l[i] = roomy(x)
	}
	d := append(make([]api.Pair, 0, len(v.Dict)+2), v.Dict...)
	for i, p := range d {
		d[i].Val = roomy(p.Val)
	}
	for i := range 2 {
		l[:cap(l)][len(l)+i] = str("spare")
		d[:cap(d)][len(d)+i] = pair("spare", str("spare"))
	}
	v.List, v.Dict = l, d
	return v
}

// deface writes over all that a value reaches, the spare room of its lists too.
func deface(v *api.Value) {
	v.Kind, v.Int, v.Str = 9, 9, "defaced"
	l, d := v.List[:cap(v.List)], v.Dict[:cap(v.Dict)]
	for i := range l {
		deface(&l[i])
	}
	for i := range d {
		d[i].Key = "defaced"
		deface(&d[i].Val)
	}
}

// showAll tells a value with the spare room of its lists.
func showAll(v api.Value) string {
	w := v
	w.List, w.Dict = v.List[:cap(v.List)], v.Dict[:cap(v.Dict)]
	s := show(api.Value{Kind: w.Kind, Int: w.Int, Str: w.Str})
	for _, x := range w.List {
		s += "[" + showAll(x) + "]"
	}
	for _, p := range w.Dict {
		s += "{" + p.Key + "=" + showAll(p.Val) + "}"
	}
	return s
}

// P2.11, P0.4: a text that is read is not changed, and what was read doesn't change with it.
func TestReadKeepsNothing(t *testing.T) {
	room := append(bytes.Repeat([]byte("#"), 3), sample...)
	room = append(room, "spare"...)
	before := string(room)
	b := room[3 : 3+len(sample)]
	v, _, e := bencode.Decode(b)
	w, _, f := bencode.Prefix(b)
	if e != api.OK || f != api.OK || string(room) != before {
		t.Fatalf("P2.11: reading changes the text: %q, %d, %d", room, e, f)
	}
	clear(room)
	if show(v) != show(sampleValue()) || show(w) != show(sampleValue()) {
		t.Error("P2.11: what was read changes with the text")
	}
}

// P2.11, P0.5: each value that is answered is new memory, and so is each list in it.
func TestAnswersShareNothing(t *testing.T) {
	given := sampleValue()
	answers := map[string]func() api.Value{
		"Decode": func() api.Value { v, _, _ := bencode.Decode([]byte(sample)); return v },
		"Prefix": func() api.Value { v, _, _ := bencode.Prefix([]byte(sample)); return v },
		"Get":    func() api.Value { v, _ := bencode.Get(given, nil); return v },
		"With":   func() api.Value { v, _ := bencode.With(given, "z", list()); return v },
	}
	for name, call := range answers {
		first, second := call(), call()
		if show(first) != show(sampleValue()) {
			t.Fatalf("%s = %s", name, short(first))
		}
		deface(&first)
		if show(second) != show(sampleValue()) || show(given) != show(sampleValue()) || show(call()) != show(sampleValue()) {
			t.Errorf("P2.11: what is written into an answer of %s is seen elsewhere", name)
		}
		ownLists(t, name, second)
	}
}

// ownLists looks whether what is appended to a list of an answer is seen in another one.
func ownLists(t *testing.T, name string, v api.Value) {
	t.Helper()
	a, b := v.Dict[0].Val.List, v.Dict[1].Val.Dict
	_ = append(v.Dict, pair("new", num(9)))
	_ = append(a, num(9))
	_ = append(b, pair("new", num(9)))
	_ = append(a[2].Dict, pair("new", num(9)))
	_ = append(v.Dict[2].Val.List, num(9))
	if show(v) != show(sampleValue()) {
		t.Errorf("P2.11: what is appended to one list of an answer of %s is seen in another", name)
	}
	a[0], b[0].Key, a[2].Dict[0].Val = num(5), "q", num(6)
	want := dict(pair("a", list(num(5), str("xyz"), dict(pair("c", num(6))))), pair("b", dict(pair("q", list(str("d"))))), pair("z", list()))
	if show(v) != show(want) {
		t.Errorf("P2.11: two lists of an answer of %s share memory: %s", name, show(v))
	}
}

// P2.11, P0.4: values that are handed in are not changed, their spare room neither, and not kept.
func TestValuesAreNotKept(t *testing.T) {
	v, x, path := roomy(sampleValue()), roomy(list(num(7), dict(pair("k", num(8))))), []string{"a"}
	before, beforeX := showAll(v), showAll(x)
	got, e1 := bencode.Get(v, path)
	text, e2 := bencode.Encode(v)
	over, e3 := bencode.With(v, "b", x)
	between, e4 := bencode.With(v, "aa", x)
	last, e5 := bencode.With(v, "zz", x)
	if e := bencode.Valid(v); e != api.OK || !bencode.Equal(v, sampleValue()) {
		t.Errorf("P2.4, P2.7: of a value with spare room: %d", e)
	}
	if e1 != 0 || e2 != 0 || e3 != 0 || e4 != 0 || e5 != 0 || showAll(v) != before || showAll(x) != beforeX || path[0] != "a" {
		t.Fatalf("P2.11: a call changes what is handed in: %d, %d, %d, %d, %d", e1, e2, e3, e4, e5)
	}
	deface(&v)
	deface(&x)
	path[0] = "defaced"
	s := sampleValue()
	d, y := s.Dict, list(num(7), dict(pair("k", num(8))))
	if show(got) != show(d[0].Val) || string(text) != sample {
		t.Error("P2.11: what Get or Encode answered changes with the value")
	}
	if show(over) != show(dict(d[0], pair("b", y), d[2])) || show(between) != show(dict(d[0], pair("aa", y), d[1], d[2])) || show(last) != show(dict(d[0], d[1], d[2], pair("zz", y))) {
		t.Error("P2.11: what With answered changes with the values")
	}
}

// P2.11: one list that is handed in twice, as the dictionary and as the new value, is answered as two.
func TestWithOfItself(t *testing.T) {
	d := dict(pair("a", list(num(1))))
	w, e := bencode.With(d, "b", d)
	if e != api.OK {
		t.Fatal(e)
	}
	w.Dict[0].Val.List[0] = num(2)
	if show(w) != show(dict(pair("a", list(num(2))), pair("b", dict(pair("a", list(num(1))))))) {
		t.Errorf("P2.11: lists of one answer share memory: %s", show(w))
	}
	one := list(num(1))
	both, _ := bencode.Get(list(one, one), nil)
	both.List[0].List[0] = num(2)
	if show(both) != show(list(list(num(2)), list(num(1)))) {
		t.Errorf("P2.11: lists of one answer share memory: %s", show(both))
	}
}

// P2.11: a text that is written is new memory, its spare room too.
func TestWrittenTextIsNew(t *testing.T) {
	for _, v := range []api.Value{sampleValue(), num(0), str(""), list(), dict()} {
		want := textOf(v)
		a, _ := bencode.Encode(v)
		b, _ := bencode.Encode(v)
		clear(a[:cap(a)])
		c, _ := bencode.Encode(v)
		if string(b) != want || string(c) != want {
			t.Errorf("P2.11: what is written into one text is seen in another: %q, %q", b, c)
		}
	}
}
