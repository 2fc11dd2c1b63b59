package extend_test

import (
	"bytes"
	"testing"

	"torrent/api"
	"torrent/extend"
)

const sampleText = "d1:ali1e3:xyzd1:ci3eee1:md1:bi2e1:ci3ee13:metadata_sizei9e4:reqqi8e1:v2:me1:zd1:klee" + "e"

// sample is the wish of sampleText, in new memory each time.
func sample() api.Wish {
	return api.Wish{Names: names(named("b", 2), named("c", 3)), Size: 9, Queue: 8, Agent: "me", More: pairs(pair("a", list(num(1), str("xyz"), dict(pair("c", num(3))))), pair("z", dict(pair("k", list()))))}
}

// roomy is a copy of a list with spare room that can be seen again.
func roomy[T any](l []T, spare T) []T {
	return append(append(make([]T, 0, len(l)+2), l...), spare, spare)[:len(l)]
}

func roomyValue(v api.Value) api.Value {
	v.List, v.Dict = roomy(v.List, str("spare")), roomyPairs(v.Dict)
	for i, x := range v.List {
		v.List[i] = roomyValue(x)
	}
	return v
}

func roomyPairs(p []api.Pair) []api.Pair {
	p = roomy(p, pair("spare", str("spare")))
	for i, x := range p {
		p[i].Val = roomyValue(x.Val)
	}
	return p
}

// roomyWish is a wish whose lists, those inside its values too, have spare room.
func roomyWish(w api.Wish) api.Wish {
	w.Names, w.More = roomy(w.Names, named("spare", 77)), roomyPairs(w.More)
	return w
}

// showAll tells a wish with the spare room of its lists.
func showAll(w api.Wish) string {
	w.Names = w.Names[:cap(w.Names)]
	s := show(api.Wish{Names: w.Names, Size: w.Size, Queue: w.Queue, Agent: w.Agent})
	return s + showAllValue(api.Value{Dict: w.More})
}

func showAllValue(v api.Value) string {
	s := showValue(api.Value{Kind: v.Kind, Int: v.Int, Str: v.Str})
	for _, x := range v.List[:cap(v.List)] {
		s += "[" + showAllValue(x) + "]"
	}
	for _, p := range v.Dict[:cap(v.Dict)] {
		s += "{" + p.Key + "=" + showAllValue(p.Val) + "}"
	}
	return s
}

// deface writes over all that a wish reaches, the spare room of its lists too.
func deface(w api.Wish) {
	for i := range w.Names[:cap(w.Names)] {
		w.Names[:cap(w.Names)][i] = named("defaced", 99)
	}
	defaceValue(&api.Value{Dict: w.More})
}

func defaceValue(v *api.Value) {
	l, d := v.List[:cap(v.List)], v.Dict[:cap(v.Dict)]
	for i := range l {
		defaceValue(&l[i])
	}
	for i := range d {
		d[i].Key = "defaced"
		defaceValue(&d[i].Val)
	}
	v.Kind, v.Int, v.Str = 9, 9, "defaced"
}

// P21.11: wishes that are handed in are not changed, their spare room neither, and not kept.
func TestWishesAreNotKept(t *testing.T) {
	old, later := roomyWish(sample()), roomyWish(api.Wish{Names: names(named("a", 1), named("c", 4)), More: pairs(pair("m2", list(list(num(1)))), pair("z", list()))})
	before, beforeLater := showAll(old), showAll(later)
	want := show(plainMerge(old, later))
	merged := extend.Merge(old, later)
	alone := extend.Merge(old, api.Wish{})
	first := extend.Merge(api.Wish{}, old)
	text, e := extend.EncodeWish(old)
	n, ok := extend.Number(old, "c")
	name, found := extend.Name(old, 2)
	if e != api.OK || n != 3 || !ok || name != "b" || !found || string(text) != sampleText || show(merged) != want {
		t.Fatalf("%q, %d, %d, %q, %s", text, e, n, name, show(merged))
	}
	if showAll(old) != before || showAll(later) != beforeLater {
		t.Error("P21.11: a wish that was handed in is changed")
	}
	deface(old)
	deface(later)
	if show(merged) != want || show(alone) != show(sample()) || show(first) != show(sample()) || string(text) != sampleText {
		t.Error("P21.11: an answer changes with the wish that was handed in")
	}
}

// P21.11: each wish that is answered is new memory, and so is each list in it.
func TestWishesShareNothing(t *testing.T) {
	given, nothing := sample(), api.Wish{}
	for name, call := range map[string]func() api.Wish{
		"DecodeWish":       func() api.Wish { w, _ := extend.DecodeWish([]byte(sampleText)); return w },
		"Merge":            func() api.Wish { return extend.Merge(given, given) },
		"Merge of old":     func() api.Wish { return extend.Merge(given, nothing) },
		"Merge of a later": func() api.Wish { return extend.Merge(nothing, given) },
	} {
		first, second := call(), call()
		if show(first) != show(sample()) {
			t.Fatalf("%s: %s", name, show(first))
		}
		deface(first)
		if show(second) != show(sample()) || show(given) != show(sample()) || show(call()) != show(sample()) {
			t.Errorf("P21.11: what is written into an answer of %s is seen elsewhere", name)
		}
		a := second.More[0].Val.List
		_ = append(second.More, pair("new", num(9)))
		_ = append(second.Names, named("new", 9))
		_ = append(a, num(9))
		_ = append(a[2].Dict, pair("new", num(9)))
		_ = append(second.More[1].Val.Dict, pair("new", num(9)))
		if show(second) != show(sample()) {
			t.Errorf("P21.11: what is appended to one list of an answer of %s is seen in another", name)
		}
	}
}

// P21.11: one list that is handed in twice is answered as two.
func TestMergeOfOneList(t *testing.T) {
	one := list(num(1))
	w := extend.Merge(api.Wish{More: pairs(pair("a", one), pair("b", one))}, api.Wish{More: pairs(pair("c", one), pair("d", list(one, one)))})
	w.More[0].Val.List[0] = num(2)
	w.More[3].Val.List[0].List[0] = num(3)
	want := api.Wish{More: pairs(pair("a", list(num(2))), pair("b", list(num(1))), pair("c", list(num(1))), pair("d", list(list(num(3)), list(num(1)))))}
	if show(w) != show(want) {
		t.Errorf("P21.11: lists of one answer share memory: %s", show(w))
	}
}

// P21.11: bytes that are handed in are not changed, those behind them neither, and not kept.
func TestBytesAreNotKept(t *testing.T) {
	sheet := []byte("d8:msg_typei1e5:piecei0e10:total_sizei5eehello")
	body := []byte{20, 7, 'h', 'e', 'y'}
	for name, c := range map[string]struct {
		given []byte
		call  func(b []byte) string
	}{
		"Body":        {[]byte("payload"), func(b []byte) string { x, _ := extend.Body(3, b); return string(x) }},
		"Open":        {body, func(b []byte) string { _, x, _ := extend.Open(b); return string(x) }},
		"DecodeWish":  {[]byte(sampleText), func(b []byte) string { x, _ := extend.DecodeWish(b); return show(x) }},
		"DecodeSheet": {sheet, func(b []byte) string { x, _ := extend.DecodeSheet(b); return showSheet(x) }},
		"EncodeSheet": {[]byte("hello"), func(b []byte) string {
			x, _ := extend.EncodeSheet(api.Sheet{Kind: api.SheetData, Total: 5, Data: b})
			return string(x)
		}},
	} {
		room := append([]byte("#"), append(bytes.Clone(c.given), "spare"...)...)
		before := string(room)
		b := room[1 : 1+len(c.given)]
		got := c.call(b)
		if string(room) != before || got == "" || got != c.call(bytes.Clone(c.given)) {
			t.Errorf("P21.11: %s changes what is handed in: %q, %q", name, room, got)
		}
	}
}

// P21.11: what is answered doesn't change with the bytes that were handed in, nor with other answers.
func TestBytesShareNothing(t *testing.T) {
	payload, body := []byte("payload"), []byte{20, 7, 'h', 'e', 'y'}
	sheet := []byte("d8:msg_typei1e5:piecei0e10:total_sizei5eehello")
	text := []byte(sampleText)
	for name, c := range map[string]struct {
		given []byte
		call  func() []byte
	}{
		"Body":        {payload, func() []byte { x, _ := extend.Body(3, payload); return x }},
		"Open":        {body, func() []byte { _, x, _ := extend.Open(body); return x }},
		"DecodeSheet": {sheet, func() []byte { x, _ := extend.DecodeSheet(sheet); return x.Data }},
		"EncodeSheet": {payload, func() []byte {
			x, _ := extend.EncodeSheet(api.Sheet{Kind: api.SheetData, Total: 5, Data: payload})
			return x
		}},
		"EncodeWish": {nil, func() []byte { x, _ := extend.EncodeWish(sample()); return x }},
	} {
		first, second := c.call(), c.call()
		want, given := string(second), string(c.given)
		for i := range first[:cap(first)] {
			first[:cap(first)][i] ^= 0xff
		}
		if string(second) != want || string(c.given) != given || string(c.call()) != want {
			t.Errorf("P21.11: what is written into an answer of %s is seen elsewhere", name)
		}
		clear(c.given)
		if string(second) != want {
			t.Errorf("P21.11: an answer of %s changes with what was handed in", name)
		}
	}
	w, _ := extend.DecodeWish(text)
	clear(text)
	if show(w) != show(sample()) {
		t.Errorf("P21.11: a wish changes with the text that it was read from: %s", show(w))
	}
}
