package span_test

import (
	"math/rand"
	"slices"
	"strings"
	"testing"

	"torrent/api"
	"torrent/bencode"
	"torrent/span"
)

func span1(kind, from, to, depth, up, nth int, key string) api.Span {
	return api.Span{Kind: kind, From: from, To: to, Depth: depth, Up: up, Nth: nth, Key: key}
}

// P3.1: the examples of the chapter.
func TestSkimExamples(t *testing.T) {
	for _, c := range []struct {
		b     string
		spans []api.Span
		place int
		e     api.Errno
	}{
		{sample, []api.Span{
			span1(4, 0, 25, 0, -1, 0, ""), span1(4, 4, 24, 1, 0, 0, "a"), span1(1, 8, 11, 2, 1, 0, "b"),
			span1(3, 14, 23, 2, 1, 1, "c"), span1(1, 15, 18, 3, 3, 0, ""), span1(2, 18, 22, 3, 3, 1, ""),
		}, 0, api.OK},
		{"i5e", []api.Span{span1(1, 0, 3, 0, -1, 0, "")}, 0, api.OK},
		{"li1e", nil, 4, api.ErrTextEnd},
		{"", nil, 0, api.ErrTextEnd},
		{"d1:bi1e1:ai2ee", nil, 7, api.ErrTextKey},
	} {
		spans, place, e := span.Skim([]byte(c.b))
		if !slices.Equal(spans, c.spans) || place != c.place || e != c.e {
			t.Errorf("Skim(%q) = %v, %d, %d", c.b, spans, place, e)
		}
	}
}

// P3.1: the spans of texts that were made value by value.
func TestSkimMade(t *testing.T) {
	for _, n := range nodes() {
		spans, place, e := span.Skim([]byte(n.text()))
		if !slices.Equal(spans, n.allSpans()) || place != 0 || e != api.OK {
			t.Errorf("Skim(%q) = %v, %d, %d, want %v", n.text(), spans, place, e, n.allSpans())
		}
	}
}

// sameAsDecode holds Skim's fault and place against those of layer 2.
func sameAsDecode(t *testing.T, b []byte) {
	v, place, e := bencode.Decode(b)
	spans, at, f := span.Skim(b)
	if at != place || f != e || (e == api.OK) != (len(spans) > 0) {
		t.Fatalf("Skim(%.60q) = %d spans, %d, %d, Decode has %d, %d", b, len(spans), at, f, place, e)
	}
	if e == api.OK && (spans[0] != api.Span{Kind: v.Kind, To: len(b), Up: -1}) {
		t.Fatalf("Skim(%.60q) begins with %v", b, spans[0])
	}
}

// P3.1: it takes just the texts that layer 2 takes: all short ones of the bytes that matter.
func TestSkimShort(t *testing.T) {
	const bytes = "ilde01:-x"
	const longest = 6
	b := make([]byte, 0, longest)
	var grow func()
	grow = func() {
		sameAsDecode(t, b)
		if len(b) == longest {
			return
		}
		for _, c := range []byte(bytes) {
			b = append(b, c)
			grow()
			b = b[:len(b)-1]
		}
	}
	grow()
}

// P3.1: texts of each fault, and texts that were broken at one place.
func TestSkimFaults(t *testing.T) {
	for _, s := range faulty {
		if _, _, e := span.Skim([]byte(s)); e == api.OK {
			t.Errorf("Skim(%.60q) has no fault", s)
		}
		sameAsDecode(t, []byte(s))
	}
	r := rand.New(rand.NewSource(31))
	for range 300 {
		b := []byte(randomNode(r, 4).text())
		for i := range b {
			broken := slices.Clone(b)
			broken[i] = "ilde0:x"[r.Intn(7)]
			sameAsDecode(t, broken)
			sameAsDecode(t, b[:i])
			sameAsDecode(t, slices.Delete(slices.Clone(b), i, i+1))
			sameAsDecode(t, slices.Insert(slices.Clone(b), i, "ilde0:x"[r.Intn(7)]))
		}
	}
}

// P3.1: at the limits of length and depth, one below and one beyond.
func TestSkimLimits(t *testing.T) {
	for n := 31; n <= 33; n++ {
		for _, s := range []string{nested(n, ""), nested(n, "i1e"), nested(n-1, "de"), "l" + nested(n-1, "") + "i1e" + nested(n-1, "0:") + "e"} {
			spans, place, e := span.Skim([]byte(s))
			if (e == api.OK) != (n <= 32) || e == api.OK && slices.MaxFunc(spans, deeper).Depth < n-1 {
				t.Errorf("Skim of %d nested = %d spans, %d, %d", n, len(spans), place, e)
			}
			sameAsDecode(t, []byte(s))
		}
	}
	for n := 1048575; n <= 1048577; n++ {
		s := wordText(strings.Repeat("x", n-len("1000000:")))
		if spans, _, e := span.Skim([]byte(s)); (e == api.OK) != (n <= 1048576) || len(spans) > 1 {
			t.Errorf("Skim of a string of %d bytes = %v, %d", n, spans, e)
		}
		sameAsDecode(t, []byte(s))
		sameAsDecode(t, []byte(s[:n-1]))
		sameAsDecode(t, []byte("l"+strings.Repeat("0:", (n-2)/2)+"e"))
		sameAsDecode(t, []byte("l1:x"+strings.Repeat("0:", (n-5)/2)+"e"))
	}
}

func deeper(a, b api.Span) int { return a.Depth - b.Depth }
