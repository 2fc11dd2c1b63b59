package names_test

import (
	"slices"
	"strings"
	"testing"

	"torrent/api"
	"torrent/names"
)

// wrongs are components, some good, some with each of the errors.
var wrongs = []string{"a", "é", "", strings.Repeat("b", 256), "\xff", "..", "x/y"}

// pathed is what the chapter asks of a path.
func pathed(p []string) api.Errno {
	if len(p) == 0 {
		return api.ErrNameEmpty
	}
	if len(p) > 16 {
		return api.ErrPathDeep
	}
	for len(p) > 0 {
		if e := named(p[0]); e != api.OK {
			return e
		}
		p = p[1:]
	}
	return api.OK
}

// checkPath holds Path and Join against what is asked of p, and Split of the joined text against p.
func checkPath(t *testing.T, p []string) {
	t.Helper()
	want, text := pathed(p), ""
	for i, s := range p {
		if want != api.OK {
			break
		}
		if i > 0 {
			text += "/"
		}
		text += s
	}
	if e := names.Path(p); e != want {
		t.Fatalf("Path(%.200q) = %d, want %d", p, e, want)
	}
	if s, e := names.Join(p); s != text || e != want {
		t.Fatalf("Join(%.200q) = %q, %d, want %q, %d", p, s, e, text, want)
	}
	if want != api.OK {
		return
	}
	if q, e := names.Split(text); !slices.Equal(q, p) || e != api.OK {
		t.Fatalf("Split(%.200q) = %q, %d, want %q", text, q, e, p)
	}
}

// P5.3, P5.4, P5.6: all lists of up to four components, good and wrong ones.
func TestPath(t *testing.T) {
	for _, p := range lists(wrongs, 4) {
		checkPath(t, p)
	}
}

// P5.3, P5.4, P5.6: paths at the limit, one below and beyond it, with each component wrong in each way; a path that is too deep is that first.
func TestPathDeep(t *testing.T) {
	for _, n := range []int{14, 15, 16, 17, 18, 100} {
		for _, s := range []string{"a", strings.Repeat("z", 255), "", "\xff"} {
			checkPath(t, times(n, s))
		}
		for i := range n {
			for _, s := range wrongs {
				p := times(n, "ab")
				p[i] = s
				checkPath(t, p)
				p[n-1] = ".."
				checkPath(t, p)
			}
		}
	}
}

// cut is a text's parts, cut at each slash.
func cut(s string) []string {
	p := []string{""}
	for i := range len(s) {
		if s[i] == '/' {
			p = append(p, "")
		} else {
			p[len(p)-1] += s[i : i+1]
		}
	}
	return p
}

// checkSplit holds Split against the error of the parts of s, and Join of what it answers against s.
func checkSplit(t *testing.T, s string) {
	t.Helper()
	parts := cut(s)
	p, e := names.Split(s)
	if want := pathed(parts); want != api.OK {
		none(t, "Split", s, p, e, want)
		return
	}
	if e != api.OK || !slices.Equal(p, parts) {
		t.Fatalf("Split(%.200q) = %q, %d, want %q", s, p, e, parts)
	}
	if back, e := names.Join(p); back != s || e != api.OK {
		t.Fatalf("Join(Split(%.200q)) = %.200q, %d", s, back, e)
	}
}

// P5.5, P5.6: all texts of up to six signs, among them the slash, the dot and such as no component may have.
func TestSplit(t *testing.T) {
	for _, s := range texts([]string{"a", "/", ".", "é", "\xff", "\\"}, 6) {
		checkSplit(t, s)
	}
}

// P5.5, P5.6: texts with as many parts as a path may have, one fewer, one more and very many; with parts as long as a component may be, one byte less and one more.
func TestSplitLimits(t *testing.T) {
	for _, n := range []int{14, 15, 16, 17, 1000} {
		for _, s := range []string{"", "a", ".", "\xff", strings.Repeat("b", 254), strings.Repeat("b", 255), strings.Repeat("b", 256)} {
			checkSplit(t, strings.Repeat(s+"/", n))
			checkSplit(t, strings.Repeat("/"+s, n))
			checkSplit(t, strings.Repeat("a/", n)+s)
			checkSplit(t, s+strings.Repeat("/a", n))
		}
	}
	p, e := names.Split(strings.Repeat("/", 1<<24))
	none(t, "Split", "16 Mi slashes", p, e, api.ErrPathDeep)
	p, e = names.Split(strings.Repeat("x", 1<<24))
	none(t, "Split", "16 MiB without a slash", p, e, api.ErrNameLong)
}

// P5.3 to P5.5: the examples that the chapter writes out.
func TestPathExamples(t *testing.T) {
	for _, c := range []struct {
		p []string
		s string
		e api.Errno
	}{
		{nil, "", api.ErrNameEmpty}, {[]string{"a", ""}, "", api.ErrNameEmpty}, {[]string{"a", "..", ""}, "", api.ErrNameDot}, {make([]string, 17), "", api.ErrPathDeep},
		{[]string{"a", "b c"}, "a/b c", api.OK},
	} {
		if e := names.Path(c.p); e != c.e {
			t.Errorf("Path(%q) = %d, want %d", c.p, e, c.e)
		}
		if s, e := names.Join(c.p); s != c.s || e != c.e {
			t.Errorf("Join(%q) = %q, %d, want %q, %d", c.p, s, e, c.s, c.e)
		}
	}
	if p, e := names.Split("a/b"); !slices.Equal(p, []string{"a", "b"}) || e != api.OK {
		t.Errorf("Split(a/b) = %q, %d", p, e)
	}
	for _, s := range []string{"", "a//b", "/a", "a/"} {
		p, e := names.Split(s)
		none(t, "Split", s, p, e, api.ErrNameEmpty)
	}
}
