package names_test

import (
	"math/rand"
	"strings"
	"testing"

	"torrent/api"
	"torrent/names"
)

// sequences is the chapter's table of what is well-formed: for each byte of a sequence the least and the greatest that may stand there.
var sequences = [][][2]byte{
	{{0x00, 0x7f}},
	{{0xc2, 0xdf}, {0x80, 0xbf}},
	{{0xe0, 0xe0}, {0xa0, 0xbf}, {0x80, 0xbf}},
	{{0xe1, 0xec}, {0x80, 0xbf}, {0x80, 0xbf}},
	{{0xed, 0xed}, {0x80, 0x9f}, {0x80, 0xbf}},
	{{0xee, 0xef}, {0x80, 0xbf}, {0x80, 0xbf}},
	{{0xf0, 0xf0}, {0x90, 0xbf}, {0x80, 0xbf}, {0x80, 0xbf}},
	{{0xf1, 0xf3}, {0x80, 0xbf}, {0x80, 0xbf}, {0x80, 0xbf}},
	{{0xf4, 0xf4}, {0x80, 0x8f}, {0x80, 0xbf}, {0x80, 0xbf}},
}

func fits(s string, sequence [][2]byte) bool {
	if len(s) < len(sequence) {
		return false
	}
	for i, r := range sequence {
		if s[i] < r[0] || s[i] > r[1] {
			return false
		}
	}
	return true
}

// broken is the first place at which no sequence of the table fits; -1, if there is none.
func broken(s string) int {
	for at := 0; at < len(s); {
		n := 0
		for _, q := range sequences {
			if fits(s[at:], q) {
				n = len(q)
			}
		}
		if n == 0 {
			return at
		}
		at += n
	}
	return -1
}

func checkUtf8(t *testing.T, s string) {
	t.Helper()
	if n := names.Utf8(s); n != broken(s) {
		t.Fatalf("Utf8(%.100q) = %d, want %d", s, n, broken(s))
	}
}

// edges are the bytes at the ends of the table's rows, those beside them, and those of the sign U+FFFD.
const edges = "\x00a\x7f\x80\x8f\x90\x9f\xa0\xbd\xbf\xc0\xc1\xc2\xdf\xe0\xe1\xec\xed\xee\xef\xf0\xf1\xf3\xf4\xf5\xff"

// P5.1: all strings of up to two bytes, all of three that end at an edge, and all of four whose bytes are edges.
func TestUtf8Short(t *testing.T) {
	checkUtf8(t, "")
	for x := range 1 << 16 {
		two := string([]byte{byte(x >> 8), byte(x)})
		checkUtf8(t, two[1:])
		checkUtf8(t, two)
		for i := range len(edges) {
			checkUtf8(t, two+edges[i:i+1])
		}
	}
	n := len(edges)
	for x := range n * n * n * n {
		checkUtf8(t, string([]byte{edges[x%n], edges[x/n%n], edges[x/n/n%n], edges[x/n/n/n]}))
	}
}

// P5.1: every sign by itself and behind another one, whole, with its last byte lacking, and with its last byte twice.
func TestUtf8Signs(t *testing.T) {
	for r := rune(0); r <= 0x10ffff; r++ {
		if r >= 0xd800 && r <= 0xdfff {
			continue
		}
		s := string(r)
		if n := names.Utf8(s + s); n != -1 {
			t.Fatalf("Utf8(%q) = %d", s+s, n)
		}
		if len(s) == 1 {
			continue
		}
		if n := names.Utf8("é" + s[:len(s)-1]); n != 2 {
			t.Fatalf("Utf8(%q) = %d, want 2", "é"+s[:len(s)-1], n)
		}
		if n := names.Utf8(s + s[len(s)-1:]); n != len(s) {
			t.Fatalf("Utf8(%q) = %d, want %d", s+s[len(s)-1:], n, len(s))
		}
	}
}

// P5.1: long strings, with a fault at any place or none.
func TestUtf8Long(t *testing.T) {
	r := rand.New(rand.NewSource(5))
	whole := strings.Repeat("aé€😀\ufffd", 3000)
	checkUtf8(t, whole)
	for range 300 {
		b := []byte(whole)
		b[r.Intn(len(b))] = edges[r.Intn(len(edges))]
		checkUtf8(t, string(b))
		checkUtf8(t, whole[:r.Intn(len(whole))])
	}
	if n := names.Utf8(strings.Repeat("a", 1<<22) + "\xff"); n != 1<<22 {
		t.Errorf("a fault at the end of 4 MiB: %d", n)
	}
}

// named is what the chapter asks of a component, with the bytes that none may have looked for one by one.
func named(s string) api.Errno {
	switch {
	case len(s) == 0:
		return api.ErrNameEmpty
	case len(s) > 255:
		return api.ErrNameLong
	case broken(s) != -1:
		return api.ErrNameUtf8
	case s == "." || s == "..":
		return api.ErrNameDot
	}
	for i := range len(s) {
		if s[i] <= 31 || s[i] == 127 || s[i] == 47 || s[i] == 92 {
			return api.ErrNameByte
		}
	}
	return api.OK
}

func checkComponent(t *testing.T, s string) {
	t.Helper()
	if e := names.Component(s); e != named(s) {
		t.Fatalf("Component(%.300q) = %d, want %d", s, e, named(s))
	}
}

// P5.2: all components of up to two bytes; each byte ahead of, within and behind others; each byte at the edges of the length.
func TestComponent(t *testing.T) {
	checkComponent(t, "")
	for x := range 1 << 16 {
		two := string([]byte{byte(x >> 8), byte(x)})
		checkComponent(t, two[1:])
		checkComponent(t, two)
		checkComponent(t, "."+two)
		checkComponent(t, two+".")
	}
	for x := range 256 {
		s := string([]byte{byte(x)})
		for _, n := range []int{253, 254, 255, 256, 1000} {
			checkComponent(t, strings.Repeat("a", n)+s)
			checkComponent(t, s+strings.Repeat("a", n))
			checkComponent(t, strings.Repeat(s, n))
		}
	}
}

// P5.2: the length is that of the bytes, not of the signs.
func TestComponentLength(t *testing.T) {
	for _, sign := range []string{"a", "é", "€", "😀", "\ufffd", ".", "/", "\xff"} {
		for n := 250; n <= 260; n++ {
			checkComponent(t, strings.Repeat(sign, n/len(sign)))
			checkComponent(t, strings.Repeat("a", n%len(sign))+strings.Repeat(sign, n/len(sign)))
		}
		checkComponent(t, strings.Repeat(sign, 255))
		checkComponent(t, strings.Repeat(sign, 256))
	}
}

// P5.1, P5.2: the examples that the chapter writes out.
func TestComponentExamples(t *testing.T) {
	for s, want := range map[string]int{
		"": -1, "abc": -1, "\x61\xc3\xa9": -1, "\x61\xc3": 1, "\xc0\x80": 0, "\xed\xa0\x80": 0, "\xf4\x90\x80\x80": 0, "\x80": 0, "\xe2\x82\xac\xe2\x82": 3,
	} {
		if n := names.Utf8(s); n != want {
			t.Errorf("Utf8(%q) = %d, want %d", s, n, want)
		}
	}
	for s, want := range map[string]api.Errno{
		"...": api.OK, " ": api.OK, ".": api.ErrNameDot, "..": api.ErrNameDot, "a/b": api.ErrNameByte, "a\\b": api.ErrNameByte, "\x7f": api.ErrNameByte, "/\xff": api.ErrNameUtf8,
		strings.Repeat("a", 255): api.OK, strings.Repeat("a", 256): api.ErrNameLong, strings.Repeat("\xff", 256): api.ErrNameLong,
	} {
		if e := names.Component(s); e != want {
			t.Errorf("Component(%q) = %d, want %d", s, e, want)
		}
	}
}
