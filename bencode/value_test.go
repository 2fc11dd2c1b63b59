package bencode_test

import (
	"math"
	"math/rand"
	"slices"
	"strings"
	"testing"

	"torrent/api"
	"torrent/bencode"
)

// firstFault is what Valid must answer: the walk, without recursion, with what is still to be looked at on a stack.
func firstFault(v api.Value) api.Errno {
	type look struct {
		v      api.Value
		around int
		key    bool // the key ahead of this value doesn't rise
	}
	work := []look{{v: v}}
	for len(work) > 0 {
		l := work[len(work)-1]
		work = work[:len(work)-1]
		if l.key {
			return api.ErrTextKey
		}
		filled := []bool{l.v.Int != 0, l.v.Str != "", len(l.v.List) > 0, len(l.v.Dict) > 0}
		if !slices.Contains([]int{1, 2, 3, 4}, l.v.Kind) {
			return api.ErrValue
		}
		filled[l.v.Kind-1] = false
		if slices.Contains(filled, true) {
			return api.ErrValue
		}
		if l.v.Kind >= 3 && l.around >= 32 {
			return api.ErrTextDepth
		}
		var in []look
		for _, x := range l.v.List {
			in = append(in, look{v: x, around: l.around + 1})
		}
		for i, p := range l.v.Dict {
			falls := i > 0 && strings.Compare(l.v.Dict[i-1].Key, p.Key) >= 0
			in = append(in, look{v: p.Val, around: l.around + 1, key: falls})
		}
		slices.Reverse(in)
		work = append(work, in...)
	}
	return api.OK
}

// P2.3, P2.4: the values that the chapter names, those with one foreign field, and those that are not valid in two ways.
func TestValid(t *testing.T) {
	bad := api.Value{Kind: 9}
	falls := dict(pair("b", num(1)), pair("a", num(2)))
	for _, c := range []struct {
		v api.Value
		e api.Errno
	}{
		{falls, api.ErrTextKey},
		{api.Value{Kind: 1, Int: 5, Str: "x"}, api.ErrValue},
		{api.Value{}, api.ErrValue}, {api.Value{Kind: -1}, api.ErrValue}, {api.Value{Kind: 5}, api.ErrValue}, {api.Value{Kind: math.MaxInt}, api.ErrValue}, {api.Value{Kind: math.MinInt}, api.ErrValue},
		{dict(pair("a", num(1)), pair("a", num(2))), api.ErrTextKey},
		{dict(pair("a", num(1)), pair("b", num(1)), pair("aa", num(1))), api.ErrTextKey},
		{dict(pair("a", num(1)), pair("", num(1))), api.ErrTextKey},
		{dict(pair("", num(1)), pair("a", num(1)), pair("aa", num(1)), pair("\x7f", num(1)), pair("\x80", num(1)), pair("\xff", num(1))), api.OK},
		// of two faults the one that the walk meets first
		{dict(pair("a", bad), pair("a", num(1))), api.ErrValue},
		{dict(pair("a", num(1)), pair("a", bad)), api.ErrTextKey},
		{list(falls, bad), api.ErrTextKey}, {list(bad, falls), api.ErrValue},
		{list(nest(list(), 32), bad), api.ErrTextDepth}, {list(bad, nest(list(), 32)), api.ErrValue},
		{nest(api.Value{Kind: 3, Int: 1}, 32), api.ErrValue}, {nest(falls, 32), api.ErrTextDepth}, {nest(falls, 31), api.ErrTextKey},
		{nest(list(bad), 32), api.ErrTextDepth}, {nest(list(bad), 31), api.ErrValue},
		{api.Value{Kind: 3, Int: 1, List: []api.Value{falls}}, api.ErrValue},
		// 31, 32 and 33 in one another
		{nest(list(), 30), api.OK}, {nest(list(), 31), api.OK}, {nest(list(), 32), api.ErrTextDepth}, {nest(dict(), 31), api.OK}, {nest(dict(), 32), api.ErrTextDepth},
		{nestDict(list(), 31), api.OK}, {nestDict(list(), 32), api.ErrTextDepth}, {nestDict(dict(), 31), api.OK}, {nestDict(dict(), 32), api.ErrTextDepth},
		{nest(num(1), 32), api.OK}, {nest(str("a"), 32), api.OK}, {nest(num(1), 33), api.ErrTextDepth}, {nestDict(num(1), 32), api.OK}, {nestDict(num(1), 33), api.ErrTextDepth}, {nest(num(1), 1000), api.ErrTextDepth},
	} {
		if e := bencode.Valid(c.v); e != c.e || firstFault(c.v) != c.e {
			t.Errorf("P2.4: Valid(%s) = %d, want %d", short(c.v), e, c.e)
		}
		b, e := bencode.Encode(c.v)
		if e != c.e || e != api.OK && len(b) > 0 || e == api.OK && string(b) != textOf(c.v) {
			t.Errorf("P2.3: Encode(%s) = %.80q, %d, want %d", short(c.v), b, e, c.e)
		}
	}
}

// P2.4: each field on each kind: foreign ones must be 0, empty or nil, and an empty list is as good as nil.
func TestForeignFields(t *testing.T) {
	for kind := -1; kind <= 6; kind++ {
		for field := 1; field <= 4; field++ {
			for _, full := range []bool{true, false} {
				v := api.Value{Kind: kind}
				switch {
				case field == 1 && full:
					v.Int = -1
				case field == 2 && full:
					v.Str = "\x00"
				case field == 3 && full:
					v.List = []api.Value{num(0)}
				case field == 3:
					v.List = make([]api.Value, 0, 3)
				case field == 4 && full:
					v.Dict = []api.Pair{pair("", num(0))}
				case field == 4:
					v.Dict = make([]api.Pair, 0, 3)
				}
				want := api.OK
				if kind < 1 || kind > 4 || full && field != kind {
					want = api.ErrValue
				}
				if e := bencode.Valid(v); e != want {
					t.Errorf("P2.4: kind %d, field %d, full %v: %d, want %d", kind, field, full, e, want)
				}
				if e := bencode.Valid(list(num(1), dict(pair("a", v)))); e != want {
					t.Errorf("P2.4: inside: kind %d, field %d, full %v: %d, want %d", kind, field, full, e, want)
				}
			}
		}
	}
}

// P2.3, P2.4: values with something wrong somewhere.
func TestSpoiledValues(t *testing.T) {
	r := rand.New(rand.NewSource(5))
	seen := map[api.Errno]int{}
	for range 30000 {
		v := spoil(r, spoil(r, randomValue(r, 4)))
		want := firstFault(v)
		seen[want]++
		if e := bencode.Valid(v); e != want {
			t.Fatalf("P2.4: Valid(%s) = %d, want %d", short(v), e, want)
		}
		b, e := bencode.Encode(v)
		if e != want || e != api.OK && len(b) > 0 || e == api.OK && string(b) != textOf(v) {
			t.Fatalf("P2.3: Encode(%s) = %.80q, %d, want %d", short(v), b, e, want)
		}
	}
	for _, e := range []api.Errno{api.OK, api.ErrValue, api.ErrTextDepth, api.ErrTextKey} {
		if seen[e] < 100 {
			t.Errorf("%d was met only %d times", e, seen[e])
		}
	}
}

// P2.3: a text of MaxText bytes is written, one of a byte more is not, whatever it is made of; such a value is valid all the same.
func TestWriteLongest(t *testing.T) {
	q := func(n int) string { return strings.Repeat("q", n) }
	many := func(n int) []api.Value { return slices.Repeat([]api.Value{num(7)}, n) } // three bytes each
	for _, c := range []struct {
		what string
		at   func(more int) api.Value // its text has MaxText bytes and so many more
	}{
		{"a string", func(m int) api.Value { return str(q(api.MaxText - 8 + m)) }},
		{"a string in a list", func(m int) api.Value { return list(str(q(api.MaxText - 10 + m))) }},
		{"a key", func(m int) api.Value { return dict(pair(q(api.MaxText-8-5+m), num(1))) }},
		{"a value of a key", func(m int) api.Value { return dict(pair("a", str(q(api.MaxText-8-5+m)))) }},
		{"numbers", func(m int) api.Value { return list(append(many((api.MaxText-10)/3), str(q(6+m)))...) }},
		{"a number of digits", func(m int) api.Value {
			return list(str(q(api.MaxText-14+m)), num(-9))
		}},
		{"lists", func(m int) api.Value {
			return list(append(slices.Repeat([]api.Value{list()}, (api.MaxText-8)/2), str(q(4+m)))...)
		}},
	} {
		for more := -2; more <= 2; more++ {
			v := c.at(more)
			want := textOf(v)
			if len(want) != api.MaxText+more {
				t.Fatalf("%s: the test's text has %d bytes", c.what, len(want))
			}
			if e := bencode.Valid(v); e != api.OK {
				t.Errorf("P2.4: %s, %d bytes more: %d", c.what, more, e)
			}
			b, e := bencode.Encode(v)
			if more <= 0 && (string(b) != want || e != api.OK) {
				t.Errorf("P2.3: %s, %d bytes more: %d bytes, %d", c.what, more, len(b), e)
			}
			if more > 0 && (len(b) > 0 || e != api.ErrTextLong) {
				t.Errorf("P2.3: %s, %d bytes more: %d bytes, %d", c.what, more, len(b), e)
			}
		}
	}
	if _, e := bencode.Encode(list(str(q(api.MaxText)), api.Value{})); e != api.ErrValue {
		t.Errorf("P2.3: too long and not valid: %d", e)
	}
	shared := str("0123456789")
	for range 22 { // a text of millions of bytes out of lists that share their elements
		shared = list(shared, shared)
	}
	if b, e := bencode.Encode(shared); len(b) > 0 || e != api.ErrTextLong {
		t.Errorf("P2.3: far too long: %d bytes, %d", len(b), e)
	}
}

// P2.5: the chapter's examples, an empty path, and each way in which there is nothing.
func TestGet(t *testing.T) {
	v := dict(pair("", num(3)), pair("a", dict(pair("b", num(7)))), pair("c", list(dict(pair("a", num(1))))), pair("d", str("a")))
	for _, c := range []struct {
		path []string
		x    api.Value
		e    api.Errno
	}{
		{[]string{"a", "b"}, num(7), api.OK}, {[]string{"a", "c"}, api.Value{}, api.ErrMissing}, {[]string{"a", "b", "c"}, api.Value{}, api.ErrMissing},
		{nil, v, api.OK}, {[]string{}, v, api.OK}, {[]string{""}, num(3), api.OK}, {[]string{"a"}, dict(pair("b", num(7))), api.OK}, {[]string{"d"}, str("a"), api.OK},
		{[]string{"A"}, api.Value{}, api.ErrMissing}, {[]string{"aa"}, api.Value{}, api.ErrMissing}, {[]string{"e"}, api.Value{}, api.ErrMissing}, {[]string{"b"}, api.Value{}, api.ErrMissing},
		{[]string{"c", "a"}, api.Value{}, api.ErrMissing}, {[]string{"c", ""}, api.Value{}, api.ErrMissing}, {[]string{"d", "a"}, api.Value{}, api.ErrMissing}, {[]string{"", ""}, api.Value{}, api.ErrMissing}, {make([]string, 1000), api.Value{}, api.ErrMissing},
	} {
		if x, e := bencode.Get(v, c.path); show(x) != show(c.x) || e != c.e {
			t.Errorf("P2.5: Get(%q) = %s, %d", c.path, short(x), e)
		}
	}
	for _, w := range []api.Value{num(1), str("a"), list(v)} {
		if x, e := bencode.Get(w, nil); show(x) != show(w) || e != api.OK {
			t.Errorf("P2.5: Get(%s, nil) = %s, %d", short(w), short(x), e)
		}
		if x, e := bencode.Get(w, []string{"a"}); show(x) != noValue || e != api.ErrMissing {
			t.Errorf("P2.5: Get(%s, a) = %s, %d", short(w), short(x), e)
		}
	}
	if x, e := bencode.Get(nestDict(num(4), 32), slices.Repeat([]string{"k"}, 32)); show(x) != show(num(4)) || e != api.OK {
		t.Errorf("P2.5: the deepest: %s, %d", short(x), e)
	}
}

// P2.5: a value that isn't valid is refused, wherever the fault is, ahead of a path that leads nowhere.
func TestGetOfNoValue(t *testing.T) {
	for _, c := range []struct {
		v api.Value
		e api.Errno
	}{
		{api.Value{}, api.ErrValue},
		{dict(pair("a", num(1)), pair("b", api.Value{})), api.ErrValue},
		{dict(pair("a", num(1)), pair("a", num(2))), api.ErrTextKey},
		{dict(pair("a", num(1)), pair("b", nest(list(), 31))), api.ErrTextDepth},
		{api.Value{Kind: 3, Dict: []api.Pair{pair("a", num(1))}}, api.ErrValue},
	} {
		for _, path := range [][]string{nil, {"a"}, {"x"}, {"a", "x"}} {
			if x, e := bencode.Get(c.v, path); show(x) != noValue || e != c.e {
				t.Errorf("P2.5: Get(%s, %q) = %s, %d", short(c.v), path, short(x), e)
			}
		}
	}
}

// P2.6: the chapter's example; a key ahead of, between, behind and in the place of others.
func TestWith(t *testing.T) {
	d := dict(pair("b", num(1)), pair("d", list(num(2))))
	for _, c := range []struct {
		v    api.Value
		key  string
		x, w api.Value
	}{
		{dict(pair("a", num(1))), "B", num(2), dict(pair("B", num(2)), pair("a", num(1)))},
		{d, "", num(9), dict(pair("", num(9)), pair("b", num(1)), pair("d", list(num(2))))},
		{d, "c", str("x"), dict(pair("b", num(1)), pair("c", str("x")), pair("d", list(num(2))))},
		{d, "bb", str("x"), dict(pair("b", num(1)), pair("bb", str("x")), pair("d", list(num(2))))},
		{d, "\xff", dict(), dict(pair("b", num(1)), pair("d", list(num(2))), pair("\xff", dict()))},
		{d, "b", list(), dict(pair("b", list()), pair("d", list(num(2))))},
		{d, "d", d, dict(pair("b", num(1)), pair("d", d))},
		{dict(), "a", num(1), dict(pair("a", num(1)))},
		{dict(), "", nest(num(1), 31), dict(pair("", nest(num(1), 31)))},
		{dict(), "", nest(list(), 30), dict(pair("", nest(list(), 30)))},
	} {
		if w, e := bencode.With(c.v, c.key, c.x); show(w) != show(c.w) || e != api.OK {
			t.Errorf("P2.6: With(%s, %q, %s) = %s, %d", short(c.v), c.key, short(c.x), short(w), e)
		}
	}
}

// P2.6: any keys in any order are laid in as a map would, and Get finds them.
func TestWithMany(t *testing.T) {
	r := rand.New(rand.NewSource(6))
	for range 300 {
		v, byKey := dict(), map[string]api.Value{}
		for range 30 {
			key, x := randomText(r), randomValue(r, 2)
			w, e := bencode.With(v, key, x)
			byKey[key] = x
			if show(w) != show(dictOf(byKey)) || e != api.OK {
				t.Fatalf("P2.6: With(%s, %q, %s) = %s, %d", short(v), key, short(x), short(w), e)
			}
			v = w
			for k, x := range byKey {
				if got, e := bencode.Get(v, []string{k}); show(got) != show(x) || e != api.OK {
					t.Fatalf("P2.5: Get(%s, %q) = %s, %d", short(v), k, short(got), e)
				}
			}
		}
	}
}

// P2.6: each refusal, and which comes first where several apply.
func TestWithRefused(t *testing.T) {
	bad, falls := api.Value{Kind: 9}, dict(pair("b", num(1)), pair("a", num(1)))
	for _, c := range []struct {
		v, x api.Value
		e    api.Errno
	}{
		{bad, bad, api.ErrValue}, {falls, bad, api.ErrTextKey}, {nest(list(), 32), bad, api.ErrTextDepth}, {dict(pair("k", bad)), falls, api.ErrValue},
		{list(), bad, api.ErrMissing}, {num(1), num(1), api.ErrMissing}, {str(""), falls, api.ErrMissing}, {list(dict()), nest(list(), 32), api.ErrMissing},
		{dict(), bad, api.ErrValue}, {dict(), falls, api.ErrTextKey}, {dict(), nest(list(), 32), api.ErrTextDepth},
		{dict(), nest(list(), 31), api.ErrTextDepth}, {dict(), nest(num(1), 32), api.ErrTextDepth}, {dict(), nestDict(num(1), 32), api.ErrTextDepth}, {dict(), nestDict(dict(), 31), api.ErrTextDepth},
		// valid alone it would be too deep, but it isn't: what is wrong with it alone counts
		{dict(), list(nest(list(), 30), bad), api.ErrValue}, {dict(), list(nest(list(), 30), falls), api.ErrTextKey},
	} {
		for _, key := range []string{"", "k", "z"} {
			if w, e := bencode.With(c.v, key, c.x); show(w) != noValue || e != c.e {
				t.Errorf("P2.6: With(%s, %q, %s) = %s, %d, want %d", short(c.v), key, short(c.x), short(w), e, c.e)
			}
		}
	}
}

// P2.7: values are the same if every field is, down to the last; so are those that are not valid.
func TestEqual(t *testing.T) {
	all := []api.Value{
		{}, {Kind: 9}, {Kind: -1}, {Int: 1}, {Str: "a"}, {List: []api.Value{{}}}, {Dict: []api.Pair{{}}},
		num(0), num(1), num(-1), num(math.MaxInt), num(math.MinInt), str(""), str("a"), str("b"), str("ab"), str("\x00"),
		list(), list(num(1)), list(num(2)), list(num(1), num(2)), list(num(2), num(1)), list(list()), list(list(), list()), list(dict()),
		dict(), dict(pair("a", num(1))), dict(pair("b", num(1))), dict(pair("a", num(2))), dict(pair("a", num(1)), pair("b", num(1))), dict(pair("b", num(1)), pair("a", num(1))), dict(pair("a", num(1)), pair("a", num(1))), dict(pair("a", dict(pair("a", num(1))))), dict(pair("a", dict(pair("a", num(2))))),
		{Kind: 1, Str: "x"}, {Kind: 1, List: []api.Value{num(1)}}, {Kind: 3, Dict: []api.Pair{pair("a", num(1))}}, {Kind: 4, List: []api.Value{num(1)}}, {Kind: 2, Int: 1}, {Kind: 2, Int: 1, Str: "a"},
		nest(num(1), 40), nest(num(2), 40), nest(num(1), 41),
	}
	for i, a := range all {
		for j, b := range all {
			if bencode.Equal(a, b) != (i == j) {
				t.Errorf("P2.7: Equal(%s, %s) = %v", short(a), short(b), i != j)
			}
		}
	}
	r := rand.New(rand.NewSource(7))
	for range 20000 {
		a := randomValue(r, 3)
		b := spoil(r, a)
		if want := show(a) == show(b); bencode.Equal(a, b) != want || bencode.Equal(b, a) != want {
			t.Fatalf("P2.7: Equal(%s, %s) = %v", short(a), short(b), !want)
		}
	}
}

// P2.7, P0.5: nil and empty lists are the same, wherever they are.
func TestEqualOfEmpty(t *testing.T) {
	none := api.Value{Kind: 3}
	for _, v := range []api.Value{{Kind: 3, List: []api.Value{}}, {Kind: 3, Dict: []api.Pair{}}, {Kind: 3, List: make([]api.Value, 0, 5)}} {
		if !bencode.Equal(none, v) || !bencode.Equal(v, none) || !bencode.Equal(list(none, dict(pair("a", v))), list(v, dict(pair("a", none)))) {
			t.Errorf("P2.7: nil and empty lists: %#v", v)
		}
	}
}

// P0.1: values that are nested as deep as the document lets them be are compared and refused.
func TestDeepest(t *testing.T) {
	a, b, c := nest(num(1), 1<<16), nest(num(1), 1<<16), nest(num(2), 1<<16)
	if !bencode.Equal(a, b) || bencode.Equal(a, c) {
		t.Error("P2.7: values that are nested deep")
	}
	if e := bencode.Valid(a); e != api.ErrTextDepth {
		t.Errorf("P2.4: a value that is nested deep: %d", e)
	}
	if x, e := bencode.Get(a, []string{"a"}); show(x) != noValue || e != api.ErrTextDepth {
		t.Errorf("P2.5: a value that is nested deep: %d", e)
	}
	if x, e := bencode.With(dict(), "a", a); show(x) != noValue || e != api.ErrTextDepth {
		t.Errorf("P2.6: a value that is nested deep: %d", e)
	}
}
