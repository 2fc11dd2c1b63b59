package extend_test

import (
	"bytes"
	"testing"

	"torrent/api"
	"torrent/extend"
)

// The chapter's examples 1 and 2.
func TestChapterBodies(t *testing.T) {
	if b, e := extend.Body(3, []byte("ab")); e != api.OK || !bytes.Equal(b, []byte{20, 3, 97, 98}) {
		t.Errorf("1: %v, %d", b, e)
	}
	for _, id := range []int{256, -1} {
		if b, e := extend.Body(id, []byte("ab")); e != api.ErrExtID || len(b) != 0 {
			t.Errorf("1: Body(%d): %v, %d", id, b, e)
		}
	}
	if b, e := extend.Body(0, make([]byte, 32767)); e != api.ErrExtSize || len(b) != 0 {
		t.Errorf("1: %d bytes, %d", len(b), e)
	}
	for _, c := range []struct {
		body    []byte
		id      int
		payload string
		e       api.Errno
	}{{[]byte{20, 3, 97, 98}, 3, "ab", api.OK}, {[]byte{20}, 0, "", api.ErrExtShort}, {[]byte{20, 0}, 0, "", api.OK}, {[]byte{21, 0}, 0, "", api.ErrExtShort}} {
		if id, p, e := extend.Open(c.body); id != c.id || string(p) != c.payload || e != c.e {
			t.Errorf("2: Open(%v) = %d, %q, %d", c.body, id, p, e)
		}
	}
}

// The chapter's examples 3 to 6.
func TestChapterWishes(t *testing.T) {
	for _, c := range []struct {
		w    api.Wish
		text string
	}{
		{api.Wish{Names: names(named("ut_metadata", 3)), Size: 31235, Agent: "x"}, "d1:md11:ut_metadatai3ee13:metadata_sizei31235e1:v1:xe"},
		{api.Wish{}, "d1:mdee"},
		{api.Wish{More: pairs(pair("p", num(6881)))}, "d1:mde1:pi6881ee"},
	} {
		if b, e := extend.EncodeWish(c.w); e != api.OK || string(b) != c.text {
			t.Errorf("EncodeWish(%s) = %s, %d", show(c.w), b, e)
		}
		if w, e := extend.DecodeWish([]byte(c.text)); e != api.OK || show(w) != show(c.w) {
			t.Errorf("DecodeWish(%s) = %s, %d", c.text, show(w), e)
		}
	}
	for text, want := range map[string]api.Errno{
		"de": api.ErrExtForm, "d1:md1:ai256eee": api.ErrExtForm, "d1:mde4:reqqi0ee": api.ErrExtForm, "d1:mde1:v0:e": api.ErrExtForm, "d1:mi1ee": api.ErrExtForm,
		"d1:mde1:v": api.ErrTextEnd, "d1:v1:x1:mdee": api.ErrTextKey,
	} {
		if w, e := extend.DecodeWish([]byte(text)); e != want || show(w) != noWish {
			t.Errorf("DecodeWish(%s) = %s, %d, want %d", text, show(w), e, want)
		}
	}
}

// The chapter's examples 7 and 8.
func TestChapterSheets(t *testing.T) {
	for text, s := range map[string]api.Sheet{
		"d8:msg_typei0e5:piecei2ee":                      {Kind: api.SheetAsk, Part: 2},
		"d8:msg_typei1e5:piecei0e10:total_sizei5eehello": {Kind: api.SheetData, Total: 5, Data: []byte("hello")},
	} {
		if b, e := extend.EncodeSheet(s); e != api.OK || string(b) != text {
			t.Errorf("7: EncodeSheet(%s) = %s, %d", showSheet(s), b, e)
		}
	}
	for text, want := range map[string]api.Errno{"d8:msg_typei2e5:piecei2eex": api.ErrExtForm, "d8:msg_typei7ee": api.ErrExtKind, "de": api.ErrExtForm} {
		if s, e := extend.DecodeSheet([]byte(text)); e != want || showSheet(s) != noSheet {
			t.Errorf("8: DecodeSheet(%s) = %s, %d, want %d", text, showSheet(s), e, want)
		}
	}
}

// The chapter's examples 9 and 10.
func TestChapterNames(t *testing.T) {
	w := api.Wish{Names: names(named("a", 3), named("b", 0))}
	for name, want := range map[string]int{"a": 3, "b": 0, "c": -1} {
		n, ok := extend.Number(w, name)
		if ok != (want >= 0) || n != max(want, 0) {
			t.Errorf("9: Number of %s: %d, %v", name, n, ok)
		}
	}
	for id, want := range map[int]string{3: "a", 0: "b", 4: ""} {
		s, ok := extend.Name(w, id)
		if ok != (want != "") || s != want {
			t.Errorf("9: Name of %d: %q, %v", id, s, ok)
		}
	}
	got := extend.Merge(api.Wish{Names: names(named("a", 3), named("b", 1)), Queue: 5}, api.Wish{Names: names(named("b", 0), named("c", 3))})
	if show(got) != show(api.Wish{Names: names(named("a", 3), named("b", 0), named("c", 3)), Queue: 5}) {
		t.Errorf("10: %s", show(got))
	}
}
