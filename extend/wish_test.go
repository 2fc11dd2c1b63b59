package extend_test

import (
	"fmt"
	"math"
	"math/rand"
	"slices"
	"strings"
	"testing"

	"torrent/api"
	"torrent/bencode"
	"torrent/extend"
)

// sameWish holds EncodeWish against the plain one, and reads its text again.
func sameWish(t *testing.T, w api.Wish) api.Errno {
	t.Helper()
	b, e := extend.EncodeWish(w)
	want, f := plainEncodeWish(w)
	if e != f || string(b) != want {
		t.Fatalf("P21.3: EncodeWish(%s) = %s, %d, want %s, %d", brief(show(w)), brief(string(b)), e, brief(want), f)
	}
	if e != api.OK {
		return e
	}
	back, g := extend.DecodeWish(b)
	if g != api.OK || show(back) != show(w) {
		t.Fatalf("P21.9: DecodeWish of the text of %s = %s, %d", brief(show(w)), brief(show(back)), g)
	}
	return api.OK
}

// sameText holds DecodeWish against the plain one, and writes its wish again.
func sameText(t *testing.T, b []byte) api.Errno {
	t.Helper()
	w, e := extend.DecodeWish(b)
	want, f := plainDecodeWish(b)
	if e != f || show(w) != show(want) {
		t.Fatalf("P21.4: DecodeWish(%s) = %s, %d, want %s, %d", brief(fmt.Sprintf("%q", b)), brief(show(w)), e, brief(show(want)), f)
	}
	if e != api.OK {
		return e
	}
	again, g := extend.EncodeWish(w)
	if g != api.OK || string(again) != string(b) {
		t.Fatalf("P21.9: EncodeWish of what %s is = %s, %d", brief(fmt.Sprintf("%q", b)), brief(string(again)), g)
	}
	return api.OK
}

// P21.3, P21.9: wishes made at random, good ones and such as were good ahead of one change.
func TestRandomWishes(t *testing.T) {
	r := rand.New(rand.NewSource(1))
	count := map[api.Errno]int{}
	for range 20000 {
		w := randomGood(r)
		if e := sameWish(t, w); e != api.OK {
			t.Fatalf("P21.3: a good wish is refused: %s, %d", show(w), e)
		}
		count[sameWish(t, spoil(r, w))]++
	}
	if count[api.OK] < 2000 || count[api.ErrExtForm] < 5000 {
		t.Errorf("too tame: %v", count)
	}
}

// P21.3: each field of a wish at its edges, with all others as they are in a good one.
func TestWishEdges(t *testing.T) {
	form := api.ErrExtForm
	for _, c := range []struct {
		name string
		w    api.Wish
		e    api.Errno
	}{
		{"an ID of 0", api.Wish{Names: names(named("a", 0))}, api.OK},
		{"an ID of 255", api.Wish{Names: names(named("a", 255))}, api.OK},
		{"an ID of 256", api.Wish{Names: names(named("a", 256))}, form},
		{"an ID below 0", api.Wish{Names: names(named("a", -1))}, form},
		{"the last ID is too great", api.Wish{Names: names(named("a", 1), named("b", 1<<40))}, form},
		{"an empty name", api.Wish{Names: names(named("", 1))}, api.OK},
		{"names that are keys", api.Wish{Names: names(named("m", 1), named("v", 2))}, api.OK},
		{"a name of any bytes", api.Wish{Names: names(named("\x00e:", 1), named("\xff", 2))}, api.OK},
		{"a name that begins another", api.Wish{Names: names(named("a", 1), named("aa", 1))}, api.OK},
		{"the longer name first", api.Wish{Names: names(named("aa", 1), named("a", 1))}, form},
		{"a name twice", api.Wish{Names: names(named("a", 1), named("a", 2))}, form},
		{"bytes count as numbers", api.Wish{Names: names(named("\x7f", 1), named("\x80", 1))}, api.OK},
		{"a size of 1", api.Wish{Size: 1}, api.OK},
		{"the greatest size", api.Wish{Size: api.MaxText}, api.OK},
		{"a greater size", api.Wish{Size: api.MaxText + 1}, form},
		{"a size below 0", api.Wish{Size: -1}, form},
		{"the least size of all", api.Wish{Size: math.MinInt}, form},
		{"a queue of 1", api.Wish{Queue: 1}, api.OK},
		{"the greatest queue", api.Wish{Queue: math.MaxInt}, api.OK},
		{"a queue below 0", api.Wish{Queue: -1}, form},
		{"an empty key", api.Wish{More: pairs(pair("", num(1)))}, api.OK},
		{"a key of each side of each own key", api.Wish{Size: 1, Queue: 1, Agent: "x", More: pairs(pair("l", num(1)), pair("ma", num(1)), pair("n", num(1)), pair("s", num(1)), pair("w", num(1)))}, api.OK},
		{"keys that don't rise, with an own one between", api.Wish{More: pairs(pair("z", num(1)), pair("a", num(1)))}, form},
		{"a key twice", api.Wish{More: pairs(pair("a", num(1)), pair("a", num(1)))}, form},
		{"a value of no kind", api.Wish{More: pairs(pair("a", api.Value{}))}, form},
		{"a value of no kind at the end", api.Wish{More: pairs(pair("a", num(1)), pair("z", api.Value{}))}, form},
		{"a value with a foreign field", api.Wish{More: pairs(pair("a", api.Value{Kind: api.KindInt, Str: "x"}))}, form},
		{"a zero and empty ones are told", api.Wish{More: pairs(pair("a", num(0)), pair("b", str("")), pair("c", list()), pair("d", dict()))}, api.OK},
		{"as deep as can be", api.Wish{More: pairs(pair("a", nest(num(1), api.MaxDepth-1)))}, api.OK},
		{"deeper", api.Wish{More: pairs(pair("a", nest(num(1), api.MaxDepth)))}, form},
		{"keys inside that don't rise", api.Wish{More: pairs(pair("a", dict(pair("y", num(1)), pair("x", num(1)))))}, form},
	} {
		if e := sameWish(t, c.w); e != c.e {
			t.Errorf("P21.3: %s: %d, want %d", c.name, e, c.e)
		}
	}
	for _, key := range []string{"m", "metadata_size", "reqq", "v"} {
		for _, w := range []api.Wish{{}, {Size: 1, Queue: 1, Agent: "x", Names: names(named("a", 1))}} {
			for _, v := range []api.Value{num(1), str("x"), dict()} {
				w.More = pairs(pair("a", num(1)), pair(key, v))
				if e := sameWish(t, w); e != form {
					t.Errorf("P21.3: More with %s: %d", key, e)
				}
			}
		}
	}
}

// P21.3: texts about the limit, those that no text may have, and faults ahead of lengths.
func TestLongWishes(t *testing.T) {
	room := maxPayload - len("d1:mde1:v32750:e")
	for _, c := range []struct {
		n int
		e api.Errno
	}{{room - 1, api.OK}, {room, api.OK}, {room + 1, api.ErrExtSize}, {api.MaxText, api.ErrExtSize}, {2 * api.MaxText, api.ErrExtSize}} {
		w := api.Wish{Agent: strings.Repeat("x", c.n)}
		if e := sameWish(t, w); e != c.e {
			t.Errorf("P21.3: an agent of %d bytes: %d, want %d", c.n, e, c.e)
		}
		w.Queue = -1
		if e := sameWish(t, w); e != api.ErrExtForm {
			t.Errorf("P21.3: an agent of %d bytes, and a queue below 0: %d", c.n, e)
		}
	}
	many := api.Wish{}
	for i := range 200000 {
		many.Names = append(many.Names, named(fmt.Sprintf("%08d", i), i%256))
	}
	if b, e := extend.EncodeWish(many); e != api.ErrExtSize || len(b) != 0 {
		t.Errorf("P21.3: very many names: %d bytes, %d", len(b), e)
	}
	many.Names[199999].Name = "0"
	if b, e := extend.EncodeWish(many); e != api.ErrExtForm || len(b) != 0 {
		t.Errorf("P21.3: very many names, of which the last doesn't rise: %d bytes, %d", len(b), e)
	}
}

// P21.4: all rows of up to six tokens behind a d, with and without an e.
func TestAllShortWishTexts(t *testing.T) {
	tokens := wishTokens()
	count := map[api.Errno]int{}
	var row func(text string, left int)
	row = func(text string, left int) {
		count[sameText(t, []byte(text+"e"))]++
		if left == 0 {
			return
		}
		for _, k := range tokens {
			// What is wrong already stays wrong in the same way, but for a text that is at its end.
			e := sameText(t, []byte(text+k))
			count[e]++
			if e == api.ErrTextEnd {
				row(text+k, left-1)
			}
		}
	}
	row("d", 6)
	if count[api.OK] < 100 || count[api.ErrExtForm] < 1000 || count[api.ErrTextKey] < 1000 {
		t.Errorf("too tame: %v", count)
	}
}

// P21.4: texts of wishes with one value put in the place of another, and texts of any values.
func TestRandomWishTexts(t *testing.T) {
	r := rand.New(rand.NewSource(2))
	count := map[api.Errno]int{}
	for range 20000 {
		v, _, _ := bencode.Decode([]byte(plainWishText(randomGood(r))))
		key := []string{"m", "metadata_size", "reqq", "v", "a", "z"}[r.Intn(6)]
		switch r.Intn(3) {
		case 0:
			v, _ = bencode.With(v, key, randomValue(r, 2))
		case 1:
			v, _ = bencode.With(v, key, num(randomNumber(r)))
		case 2:
			v.Dict = slices.DeleteFunc(v.Dict, func(p api.Pair) bool { return p.Key == key })
		}
		count[sameText(t, []byte(textOf(v)))]++
		sameText(t, []byte(textOf(randomValue(r, 3))))
	}
	if count[api.OK] < 3000 || count[api.ErrExtForm] < 3000 {
		t.Errorf("too tame: %v", count)
	}
}

// P21.4: texts of wishes with a byte changed, left out or put in.
func TestSpoiledWishTexts(t *testing.T) {
	r := rand.New(rand.NewSource(3))
	count := map[api.Errno]int{}
	for range 40000 {
		b := []byte(plainWishText(randomGood(r)))
		at := r.Intn(len(b))
		switch r.Intn(3) {
		case 0:
			b[at] = "deil0123456789:-mv"[r.Intn(18)]
		case 1:
			b = slices.Delete(b, at, at+1)
		case 2:
			b = slices.Insert(b, at, "deil0123456789:-mv"[r.Intn(18)])
		}
		count[sameText(t, b)]++
	}
	if len(count) < 7 {
		t.Errorf("too tame: %v", count)
	}
}

// P21.4: lengths at the limit, ahead of all else that may be wrong.
func TestLongWishTexts(t *testing.T) {
	for n := maxPayload - 3; n <= maxPayload+3; n++ {
		room := n - len("d1:mde1:v32750:e")
		good := fmt.Sprintf("d1:mde1:v%d:%se", room, strings.Repeat("x", room))
		want := api.OK
		if n > maxPayload {
			want = api.ErrExtSize
		}
		if e := sameText(t, []byte(good)); e != want {
			t.Errorf("P21.4: of %d bytes: %d, want %d", n, e, want)
		}
		if want == api.OK {
			want = api.ErrTextByte
		}
		if e := sameText(t, []byte(strings.Repeat("x", n))); e != want {
			t.Errorf("P21.4: of %d bytes that are no text: %d, want %d", n, e, want)
		}
	}
	if e := sameText(t, make([]byte, 2*api.MaxText)); e != api.ErrExtSize {
		t.Errorf("P21.4: of a text that is too long for any: %d", e)
	}
}

// P21.5: the first of several names and numbers counts, and the wish need not be good.
func TestNumberAndName(t *testing.T) {
	r := rand.New(rand.NewSource(4))
	found := 0
	for range 5000 {
		w := api.Wish{Size: r.Intn(3) - 1}
		for range r.Intn(6) {
			w.Names = append(w.Names, named(randomName(r), r.Intn(5)-2))
		}
		for _, name := range []string{"", "a", "m", "v", "ut_metadata", randomName(r)} {
			n, ok := extend.Number(w, name)
			at := slices.IndexFunc(w.Names, func(x api.Named) bool { return x.Name == name })
			if ok != (at >= 0) || ok && n != w.Names[at].ID || !ok && n != 0 {
				t.Fatalf("P21.5: Number(%s, %q) = %d, %v", show(w), name, n, ok)
			}
		}
		for id := -3; id <= 4; id++ {
			s, ok := extend.Name(w, id)
			at := slices.IndexFunc(w.Names, func(x api.Named) bool { return x.ID == id })
			if ok != (at >= 0) || ok && s != w.Names[at].Name || !ok && s != "" {
				t.Fatalf("P21.5: Name(%s, %d) = %q, %v", show(w), id, s, ok)
			}
			if at > 0 {
				found++
			}
		}
	}
	if found < 1000 {
		t.Errorf("too tame: %d", found)
	}
}
