package span_test

import (
	"bytes"
	"math/rand"
	"strings"
	"testing"

	"torrent/api"
	"torrent/bencode"
	"torrent/span"
)

// P3.6: the examples of the chapter.
func TestPutExamples(t *testing.T) {
	for _, c := range []struct {
		b    string
		path []api.Step
		v    string
		want string
		e    api.Errno
	}{
		{sample, path(key("a"), key("b")), "le", "d1:ad1:ble1:cli1e2:xxeee", api.OK},
		{sample, path(key("a"), key("bb")), "i0e", "d1:ad1:bi7e2:bbi0e1:cli1e2:xxeee", api.OK},
		{sample, path(key("a"), key("c"), at(2)), "0:", "d1:ad1:bi7e1:cli1e2:xx0:eee", api.OK},
		{sample, path(key("a"), key("c"), at(3)), "0:", "", api.ErrAbsent},
		{sample, path(key("x"), key("y")), "0:", "", api.ErrAbsent},
		{sample, path(key("a"), key("b")), "i01e", "", api.ErrPut},
		{sample, path(key("x"), key("y")), "", "", api.ErrPut},
		{"le", nil, "de", "de", api.OK},
		{"le", path(at(0)), "le", "llee", api.OK},
		{nested(32, ""), make([]api.Step, 32), "le", "", api.ErrGrown},
	} {
		if w, e := span.Put([]byte(c.b), c.path, []byte(c.v)); string(w) != c.want || e != c.e {
			t.Errorf("Put(%q, %v, %q) = %q, %d", c.b, c.path, c.v, w, e)
		}
	}
}

// putCases are texts with values to put into them at each path and beside it.
func putCases(do func(n *node, p []api.Step, v *node)) {
	r := rand.New(rand.NewSource(36))
	for _, n := range nodes() {
		for _, p := range n.tries() {
			do(n, p, randomNode(r, 2))
		}
	}
}

// P3.6: at all paths of made texts, and at paths beside them.
func TestPutMade(t *testing.T) {
	putCases(func(n *node, p []api.Step, v *node) {
		want, fault := v.text(), api.OK
		if len(p) > 0 {
			m, e := n.put(p, v)
			if want, fault = "", e; e == api.OK {
				want = m.text()
			}
		}
		if w, e := span.Put([]byte(n.text()), p, []byte(v.text())); string(w) != want || e != fault {
			t.Fatalf("Put(%q, %v, %q) = %q, %d, want %q, %d", n.text(), p, v.text(), w, e, want, fault)
		}
		for _, s := range []string{"", "i1", "lee", "d1:b0:1:a0:e", nested(33, "")} {
			if w, e := span.Put([]byte(n.text()), p, []byte(s)); len(w) > 0 || e != api.ErrPut {
				t.Fatalf("Put(%q, %v, %q) = %q, %d", n.text(), p, s, w, e)
			}
		}
	})
}

// P3.6: a new pair stands where the keys rise, in each place among them.
func TestPutKeys(t *testing.T) {
	b := "d1:bi1e10:cccccccccci2e1:eld1:fi3eeee"
	for key1, want := range map[string]string{
		"":             "d0:0:1:bi1e10:cccccccccci2e1:eld1:fi3eeee",
		"a\xff":        "d2:a\xff0:1:bi1e10:cccccccccci2e1:eld1:fi3eeee",
		"b\x00":        "d1:bi1e2:b\x000:10:cccccccccci2e1:eld1:fi3eeee",
		"c":            "d1:bi1e1:c0:10:cccccccccci2e1:eld1:fi3eeee",
		"cccccccccccc": "d1:bi1e10:cccccccccci2e12:cccccccccccc0:1:eld1:fi3eeee",
		"f":            "d1:bi1e10:cccccccccci2e1:eld1:fi3eee1:f0:e",
		"\xff":         "d1:bi1e10:cccccccccci2e1:eld1:fi3eee1:\xff0:e",
		"cccccccccc":   "d1:bi1e10:cccccccccc0:1:eld1:fi3eeee",
		"e":            "d1:bi1e10:cccccccccci2e1:e0:e",
	} {
		if w, e := span.Put([]byte(b), path(key(key1)), []byte("0:")); string(w) != want || e != api.OK {
			t.Errorf("Put at %q = %q, %d", key1, w, e)
		}
		outer := path(key("x"), at(1), key(key1))
		if w, e := span.Put([]byte("d1:xli1e"+b+"ee"), outer, []byte("0:")); string(w) != "d1:xli1e"+want+"ee" || e != api.OK {
			t.Errorf("Put at %q deep inside = %q, %d", key1, w, e)
		}
	}
}

// P3.6: what comes out may be just as long as a text.
func TestPutLength(t *testing.T) {
	fill := func(n int) string { return strings.Repeat("x", n) }
	half := "500000:" + fill(500000)
	for extra, want := range map[int]api.Errno{-1: api.OK, 0: api.OK, 1: api.ErrGrown} {
		for _, c := range []struct {
			b     string
			path  []api.Step
			ahead int // bytes of what comes out beside the string that is put
		}{
			{"l" + half + "e", path(at(1)), 2 + len(half)},
			{"l" + half + "4:abcde", path(at(1)), 2 + len(half)},
			{"d1:a" + half + "e", path(key("bb")), 9 + len(half)},
			{"d1:a" + half + "2:bbi5ee", path(key("bb")), 9 + len(half)},
			{"le", path(at(0)), 2},
		} {
			v := wordText(fill(1048576 + extra - c.ahead - len("500000:")))
			if c.ahead == 2 {
				v = wordText(fill(1048576 + extra - c.ahead - len("1000000:")))
			}
			w, e := span.Put([]byte(c.b), c.path, []byte(v))
			if e != want || e == api.OK && len(w) != 1048576+extra || e != api.OK && len(w) != 0 {
				t.Errorf("Put to %d bytes = %d bytes, %d", 1048576+extra, len(w), e)
			}
		}
		w, e := span.Put([]byte("de"), path(key(fill(1048576+extra-len("d1000000:0:e")))), []byte("0:"))
		if e != want || e == api.OK && len(w) != 1048576+extra {
			t.Errorf("Put of a long key to %d bytes = %d bytes, %d", 1048576+extra, len(w), e)
		}
	}
}

// P3.6: keys and values that are too long by themselves.
func TestPutLonger(t *testing.T) {
	huge := strings.Repeat("x", 1048576)
	if _, e := span.Put([]byte("de"), path(key(huge)), []byte("0:")); e != api.ErrGrown {
		t.Errorf("Put with a key that is too long: %d", e)
	}
	if _, e := span.Put([]byte("de"), path(key("a"), key(huge)), []byte("0:")); e != api.ErrAbsent {
		t.Errorf("Put with a key that is too long behind a step that is not there: %d", e)
	}
	long := wordText(huge[:1048568])
	if w, e := span.Put([]byte("le"), nil, []byte(long)); string(w) != long || e != api.OK {
		t.Errorf("Put of the longest text for the whole: %d bytes, %d", len(w), e)
	}
	if w, e := span.Put([]byte("le"), path(at(0)), []byte(long+"x")); len(w) != 0 || e != api.ErrPut {
		t.Errorf("Put of what is longer than a text: %d bytes, %d", len(w), e)
	}
	if w, e := span.Put([]byte(long), nil, []byte("i1e")); string(w) != "i1e" || e != api.OK {
		t.Errorf("Put in the place of the longest text: %d bytes, %d", len(w), e)
	}
}

// P3.6: what comes out may be just as deep as a text, in the place of a value and as a new one.
func TestPutDepth(t *testing.T) {
	for steps := 1; steps <= 32; steps++ {
		for extra, want := range map[int]api.Errno{-1: api.OK, 0: api.OK, 1: api.ErrGrown} {
			depth := 32 - steps + extra
			if depth < 0 {
				continue
			}
			v := nested(depth, "i1e")
			for _, b := range []string{nested(steps, "0:"), nested(steps, ""), nested(steps-1, "de"), nested(steps-1, "d0:i5ee")} {
				w, e := span.Put([]byte(b), make([]api.Step, steps), []byte(v))
				if e != want || (e == api.OK) != (len(w) > 0) {
					t.Errorf("Put of depth %d at %d steps = %q, %d", depth, steps, w, e)
				}
			}
		}
	}
	if w, e := span.Put([]byte("le"), nil, []byte(nested(32, ""))); string(w) != nested(32, "") || e != api.OK {
		t.Errorf("Put of the deepest text for the whole = %q, %d", w, e)
	}
}

// P3.7: the examples of the chapter.
func TestCutExamples(t *testing.T) {
	for _, c := range []struct {
		path []api.Step
		want string
		e    api.Errno
	}{
		{path(key("a"), key("b")), "d1:ad1:cli1e2:xxeee", api.OK},
		{path(key("a")), "de", api.OK},
		{path(key("a"), key("c"), at(0)), "d1:ad1:bi7e1:cl2:xxeee", api.OK},
		{nil, "", api.ErrWhole},
		{path(key("b")), "", api.ErrAbsent},
		{path(key("a"), key("b"), at(0)), "", api.ErrStep},
	} {
		if w, e := span.Cut([]byte(sample), c.path); string(w) != c.want || e != c.e {
			t.Errorf("Cut(%v) = %q, %d", c.path, w, e)
		}
	}
}

// P3.7: at all paths of made texts, and at paths beside them; what comes out is a text.
func TestCutMade(t *testing.T) {
	for _, n := range nodes() {
		for _, p := range n.tries() {
			want, fault := "", api.ErrWhole
			if len(p) > 0 {
				m, e := n.cut(p)
				if fault = e; e == api.OK {
					want = m.text()
				}
			}
			w, e := span.Cut([]byte(n.text()), p)
			if string(w) != want || e != fault {
				t.Fatalf("Cut(%q, %v) = %q, %d, want %q, %d", n.text(), p, w, e, want, fault)
			}
			if _, _, f := bencode.Decode(w); e == api.OK && f != api.OK {
				t.Fatalf("Cut(%q, %v) = %q, which is no text: %d", n.text(), p, w, f)
			}
		}
	}
}

// begins tells whether path a goes to b or on to something in it.
func begins(a, b []api.Step, n *node) bool {
	if len(b) > len(a) {
		return false
	}
	for i := range b {
		x, _, e := n.find(a[:i])
		if e != api.OK || x.kind == api.KindList && a[i].At != b[i].At || x.kind == api.KindDict && a[i].Key != b[i].Key {
			return false
		}
	}
	return true
}

// P3.8: what was put is found, and what lies beside it stays.
func TestPutFind(t *testing.T) {
	putCases(func(n *node, p []api.Step, v *node) {
		b := []byte(n.text())
		out, e := span.Put(b, p, []byte(v.text()))
		if e != api.OK {
			return
		}
		if w, e := span.Whole(out, p); string(w) != v.text() || e != api.OK {
			t.Fatalf("Put(%q, %v, %q): %q, %d is found there", b, p, v.text(), w, e)
		}
		for _, q := range n.paths(nil) {
			if begins(p, q, n) || begins(q, p, n) {
				continue
			}
			old, _ := span.Whole(b, q)
			if now, e := span.Whole(out, q); !bytes.Equal(now, old) || e != api.OK {
				t.Fatalf("Put(%q, %v, %q): at %v was %q, is %q, %d", b, p, v.text(), q, old, now, e)
			}
		}
	})
}

// P3.9: putting back gives back, and Cut takes back what Put added.
func TestPutCut(t *testing.T) {
	putCases(func(n *node, p []api.Step, v *node) {
		b := []byte(n.text())
		old, e := span.Whole(b, p)
		if e == api.OK {
			if w, e := span.Put(b, p, old); !bytes.Equal(w, b) || e != api.OK {
				t.Fatalf("Put(%q, %v, %q) = %q, %d", b, p, old, w, e)
			}
			return
		}
		out, f := span.Put(b, p, []byte(v.text()))
		if e != api.ErrAbsent || f != api.OK {
			return
		}
		if w, e := span.Cut(out, p); !bytes.Equal(w, b) || e != api.OK {
			t.Fatalf("Cut(%q, %v) = %q, %d, not %q", out, p, w, e, b)
		}
	})
}
