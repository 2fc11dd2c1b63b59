package magnet_test

import (
	"math/rand"
	"strings"
	"testing"

	"torrent/api"
	"torrent/magnet"
)

// holdUnescape holds Unescape of a text against the plain one.
func holdUnescape(t *testing.T, s string) {
	t.Helper()
	want, e := plainUnescape(s)
	if got, f := magnet.Unescape(s); got != want || f != e {
		t.Errorf("P22.2: Unescape(%q) = %q, %d, want %q, %d", brief(s), brief(got), f, brief(want), e)
	}
}

// P22.1, P22.2: each byte, alone and between others.
func TestSignOfEachByte(t *testing.T) {
	for c := range 256 {
		for _, s := range []string{string([]byte{byte(c)}), string([]byte{'a', byte(c), '%'}), string([]byte{byte(c), byte(c)})} {
			text := magnet.Escape(s)
			if text != plainEscape(s) {
				t.Errorf("P22.1: Escape(%q) = %q, want %q", s, text, plainEscape(s))
			}
			if back, e := magnet.Unescape(text); back != s || e != api.OK {
				t.Errorf("P22.2: Unescape(%q) = %q, %d", text, back, e)
			}
			holdUnescape(t, s)
		}
	}
}

// P22.2: each two bytes behind a percent sign.
func TestUnescapeEachSign(t *testing.T) {
	for high := range 256 {
		for low := range 256 {
			holdUnescape(t, string([]byte{'%', byte(high), byte(low)}))
		}
	}
}

// P22.2: all rows of up to six of a few bytes.
func TestUnescapeShortTexts(t *testing.T) {
	rows := []string{""}
	for range 7 {
		var longer []string
		for _, s := range rows {
			holdUnescape(t, s)
			for _, c := range []string{"%", "2", "0", "F", "f", "&"} {
				longer = append(longer, s+c)
			}
		}
		rows = longer
	}
}

// P22.1, P22.2: random texts, there and back, and any text as one that is written with percent signs.
func TestSignsOfRandomTexts(t *testing.T) {
	r := rand.New(rand.NewSource(1))
	for range 3000 {
		b := make([]byte, r.Intn(60))
		r.Read(b)
		s := string(b)
		text := magnet.Escape(s)
		if text != plainEscape(s) {
			t.Errorf("P22.1: Escape(%q) = %q", s, text)
		}
		if back, e := magnet.Unescape(text); back != s || e != api.OK {
			t.Errorf("P22.2: Unescape(%q) = %q, %d", text, back, e)
		}
		holdUnescape(t, s)
		if len(text) > 0 {
			at := r.Intn(len(text))
			holdUnescape(t, text[:at])
			holdUnescape(t, text[at:])
			holdUnescape(t, text[:at]+string("%2aF &b"[r.Intn(7)])+text[at+1:])
		}
	}
}

// P22.1, P22.2: texts longer than any link.
func TestSignsOfLongTexts(t *testing.T) {
	for _, n := range []int{4095, 4096, 4097, 1 << 20} {
		for s, want := range map[string]string{strings.Repeat("a", n): strings.Repeat("a", n), strings.Repeat("&", n): strings.Repeat("%26", n)} {
			text := magnet.Escape(s)
			back, e := magnet.Unescape(text)
			if text != want || back != s || e != api.OK {
				t.Errorf("P22.1, P22.2: %d bytes: %q, %q, %d", n, brief(text), brief(back), e)
			}
			if back, e := magnet.Unescape(text + "%"); back != "" || e != api.ErrLinkSign {
				t.Errorf("P22.2: a percent sign behind %d bytes: %q, %d", n, brief(back), e)
			}
		}
	}
}
