package span_test

import (
	"slices"
	"strconv"
	"strings"
	"testing"

	"torrent/api"
	"torrent/bencode"
	"torrent/span"
)

// P3.2 to P3.5: the examples of the chapter.
func TestFindExamples(t *testing.T) {
	b := []byte(sample)
	for _, c := range []struct {
		b    string
		path []api.Step
		s    api.Span
		e    api.Errno
	}{
		{sample, path(key("a"), key("c"), at(1)), span1(2, 18, 22, 3, 3, 1, ""), api.OK},
		{sample, path(key("a"), key("d")), api.Span{}, api.ErrAbsent},
		{sample, path(key("a"), key("c"), at(2)), api.Span{}, api.ErrAbsent},
		{sample, path(key("a"), key("c"), at(-1)), api.Span{}, api.ErrAbsent},
		{sample, path(key("a"), key("b"), key("b")), api.Span{}, api.ErrStep},
		{"i5e", path(at(0)), api.Span{}, api.ErrStep},
		{"i5e", nil, span1(1, 0, 3, 0, -1, 0, ""), api.OK},
	} {
		if s, e := span.Find([]byte(c.b), c.path); s != c.s || e != c.e {
			t.Errorf("Find(%q, %v) = %v, %d", c.b, c.path, s, e)
		}
	}
	if w, e := span.Whole(b, path(key("a"), key("c"))); string(w) != "li1e2:xxe" || e != api.OK {
		t.Errorf("Whole = %q, %d", w, e)
	}
	if n, e := span.Int(b, path(key("a"), key("b"))); n != 7 || e != api.OK {
		t.Errorf("Int = %d, %d", n, e)
	}
	if n, e := span.Int(b, path(key("a"))); n != 0 || e != api.ErrKind {
		t.Errorf("Int of a dictionary = %d, %d", n, e)
	}
	if s, e := span.Str(b, path(key("a"), key("c"), at(1))); s != "xx" || e != api.OK {
		t.Errorf("Str = %q, %d", s, e)
	}
	if k, e := span.Keys(b, path(key("a"))); !slices.Equal(k, []string{"b", "c"}) || e != api.OK {
		t.Errorf("Keys = %q, %d", k, e)
	}
}

// P3.2, P3.4, P3.5: at all paths of made texts, and at paths beside them.
func TestFindMade(t *testing.T) {
	for _, n := range nodes() {
		b := []byte(n.text())
		spans := n.allSpans()
		for _, p := range n.tries() {
			m, place, e := n.find(p)
			want, whole := api.Span{}, ""
			if e == api.OK {
				want, whole = spans[place], m.text()
			}
			if s, f := span.Find(b, p); s != want || f != e {
				t.Fatalf("Find(%q, %v) = %v, %d, want %v, %d", b, p, s, f, want, e)
			}
			if w, f := span.Whole(b, p); string(w) != whole || f != e {
				t.Fatalf("Whole(%q, %v) = %q, %d, want %q, %d", b, p, w, f, whole, e)
			}
			readsAre(t, b, p, m, e)
		}
	}
}

// readsAre holds Int, Str and Keys at a path against the node m there, or against the error that there is none.
func readsAre(t *testing.T, b []byte, p []api.Step, m *node, e api.Errno) {
	fault := func(kind int) api.Errno {
		if e == api.OK && m.kind != kind {
			return api.ErrKind
		}
		return e
	}
	number, word, keys := 0, "", []string(nil)
	if fault(api.KindInt) == api.OK {
		number, _ = strconv.Atoi(strings.Trim(m.leaf, "ie"))
	}
	if fault(api.KindStr) == api.OK {
		_, word, _ = strings.Cut(m.leaf, ":")
	}
	if fault(api.KindDict) == api.OK {
		keys = m.keys
	}
	if n, f := span.Int(b, p); n != number || f != fault(api.KindInt) {
		t.Fatalf("Int(%q, %v) = %d, %d", b, p, n, f)
	}
	if s, f := span.Str(b, p); s != word || f != fault(api.KindStr) {
		t.Fatalf("Str(%q, %v) = %q, %d", b, p, s, f)
	}
	if k, f := span.Keys(b, p); !slices.Equal(k, keys) || f != fault(api.KindDict) {
		t.Fatalf("Keys(%q, %v) = %q, %d", b, p, k, f)
	}
}

// P3.2: of several steps that cannot be taken the first one counts; the field that is not looked at does not matter.
func TestFindSteps(t *testing.T) {
	b := []byte("d1:0l1:xe1:1i1ee")
	for _, c := range []struct {
		path []api.Step
		from int
		e    api.Errno
	}{
		{[]api.Step{{At: 1, Key: "0"}, {At: 0, Key: "1"}}, 5, api.OK},
		{[]api.Step{{At: -1, Key: "1"}}, 12, api.OK},
		{[]api.Step{{At: 0}}, 0, api.ErrAbsent},
		{[]api.Step{key("2"), key("1"), at(0)}, 0, api.ErrAbsent},
		{[]api.Step{key("1"), at(0), key("2")}, 0, api.ErrStep},
		{[]api.Step{key("0"), at(0), at(-1)}, 0, api.ErrStep},
		{[]api.Step{key("0"), at(-1), at(-1)}, 0, api.ErrAbsent},
	} {
		if s, e := span.Find(b, c.path); s.From != c.from || e != c.e {
			t.Errorf("Find(%q, %v) = %v, %d", b, c.path, s, e)
		}
	}
}

// P3.2: at the greatest depth, one step less and one more, and with a path that is far too long.
func TestFindDeep(t *testing.T) {
	b := []byte(nested(32, "i4e"))
	for _, c := range []struct {
		steps int
		s     api.Span
		e     api.Errno
	}{
		{31, span1(3, 31, 36, 31, 30, 0, ""), api.OK},
		{32, span1(1, 32, 35, 32, 31, 0, ""), api.OK},
		{33, api.Span{}, api.ErrStep},
		{1 << 20, api.Span{}, api.ErrStep},
	} {
		if s, e := span.Find(b, make([]api.Step, c.steps)); s != c.s || e != c.e {
			t.Errorf("Find with %d steps = %v, %d", c.steps, s, e)
		}
	}
}

// P3.3: what is asked of Info, in its order.
func TestInfo(t *testing.T) {
	long := "d1:a" + nested(31, "") + "4:infod4:infod4:infoi1eee5:info\x00dee"
	for _, c := range []struct {
		b        string
		from, to int
		e        api.Errno
	}{
		{"d4:infodee", 7, 9, api.OK},
		{"d3:inf0:4:infod1:xlee5:infoxi1ee", 14, 21, api.OK},
		{long, 72, 72 + len("d4:infod4:infoi1eee"), api.OK},
		{"d4:infoi1ee", 0, 0, api.ErrKind},
		{"d4:infolee", 0, 0, api.ErrKind},
		{"d4:info2:dee", 0, 0, api.ErrKind},
		{"le", 0, 0, api.ErrKind},
		{"ldee", 0, 0, api.ErrKind},
		{"i1e", 0, 0, api.ErrKind},
		{"4:info", 0, 0, api.ErrKind},
		{"de", 0, 0, api.ErrAbsent},
		{"d4:Infode5:infosdee", 0, 0, api.ErrAbsent},
		{"d1:ad4:infodeee", 0, 0, api.ErrAbsent},
	} {
		if from, to, e := span.Info([]byte(c.b)); from != c.from || to != c.to || e != c.e {
			t.Errorf("Info(%q) = %d, %d, %d", c.b, from, to, e)
		}
	}
}

// P3.4: the bytes of a value are a text themselves, whose value layer 2 finds there too.
func TestWholeIsText(t *testing.T) {
	for _, n := range nodes() {
		for _, p := range n.paths(nil) {
			w, _ := span.Whole([]byte(n.text()), p)
			v, _, e := bencode.Decode(w)
			if m, _, _ := n.find(p); e != api.OK || v.Kind != m.kind {
				t.Fatalf("Whole(%q, %v) = %q: %d", n.text(), p, w, e)
			}
		}
	}
}

// All calls: what is no text has the error of layer 2, ahead of all other errors, and nothing else is answered.
func TestNoText(t *testing.T) {
	for _, s := range faulty {
		b := []byte(s)
		_, _, want := bencode.Decode(b)
		for _, p := range [][]api.Step{nil, path(at(0)), path(key("a"), at(-1)), path(key("zz"))} {
			f, e1 := span.Find(b, p)
			w, e2 := span.Whole(b, p)
			n, e3 := span.Int(b, p)
			x, e4 := span.Str(b, p)
			k, e5 := span.Keys(b, p)
			u, e6 := span.Put(b, p, []byte("x"))
			v, e7 := span.Put(b, p, []byte("le"))
			c, e8 := span.Cut(b, p)
			for i, e := range []api.Errno{e1, e2, e3, e4, e5, e6, e7, e8} {
				if e != want {
					t.Errorf("%.60q, %v: call %d answers %d, Decode %d", b, p, i, e, want)
				}
			}
			if f != (api.Span{}) || n != 0 || x != "" || len(w)+len(k)+len(u)+len(v)+len(c) > 0 {
				t.Errorf("%.60q, %v: something is answered beside an error", b, p)
			}
		}
		if from, to, e := span.Info(b); from != 0 || to != 0 || e != want {
			t.Errorf("Info(%.60q) = %d, %d, %d, Decode has %d", b, from, to, e, want)
		}
	}
}
