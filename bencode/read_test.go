package bencode_test

import (
	"math/big"
	"math/rand"
	"regexp"
	"strings"
	"testing"

	"torrent/api"
	"torrent/bencode"
)

// tryRead is what must be answered for the first value of a text: the value and the length of its text, or the place and the fault. It goes through the text without recursion, with the open lists and dictionaries on a stack.
func tryRead(text string) (api.Value, int, api.Errno) {
	type open struct {
		v   api.Value
		key string
		has bool // a key has been read, its value not yet
	}
	var stack []*open
	at := 0
	for {
		var top *open
		if len(stack) > 0 {
			top = stack[len(stack)-1]
		}
		if at == len(text) {
			return api.Value{}, at, api.ErrTextEnd
		}
		c := text[at]
		v, n, e := api.Value{}, 0, api.OK
		switch {
		case c == 'e' && top != nil && !top.has:
			v, n = top.v, 1
			stack = stack[:len(stack)-1]
			top = nil
			if len(stack) > 0 {
				top = stack[len(stack)-1]
			}
		case top != nil && top.v.Kind == api.KindDict && !top.has:
			if c < '0' || c > '9' {
				return api.Value{}, at, api.ErrTextByte
			}
			key, n, e := tryString(text[at:])
			if e != api.OK {
				return api.Value{}, at + n, e
			}
			if d := top.v.Dict; len(d) > 0 && strings.Compare(key.Str, d[len(d)-1].Key) < 1 {
				return api.Value{}, at, api.ErrTextKey
			}
			top.key, top.has = key.Str, true
			at += n
			continue
		case c == 'l' || c == 'd':
			if len(stack) >= 32 {
				return api.Value{}, at, api.ErrTextDepth
			}
			kind := api.KindList
			if c == 'd' {
				kind = api.KindDict
			}
			stack = append(stack, &open{v: api.Value{Kind: kind}})
			at++
			continue
		case c == 'i':
			v, n, e = tryNumber(text[at:])
		case c >= '0' && c <= '9':
			v, n, e = tryString(text[at:])
		default:
			return api.Value{}, at, api.ErrTextByte
		}
		at += n
		if e != api.OK {
			return api.Value{}, at, e
		}
		switch {
		case top == nil:
			return v, at, api.OK
		case top.v.Kind == api.KindList:
			top.v.List = append(top.v.List, v)
		default:
			top.v.Dict = append(top.v.Dict, pair(top.key, v))
			top.has = false
		}
	}
}

var (
	numberHead = regexp.MustCompile(`^i-?[0-9]*`)
	wholeInt   = regexp.MustCompile(`^i(0|-?[1-9][0-9]*)e`)
	stringHead = regexp.MustCompile(`^[0-9]+`)
	wholeCount = regexp.MustCompile(`^(0|[1-9][0-9]*):`)
)

// tryNumber reads a text that begins with i.
func tryNumber(text string) (api.Value, int, api.Errno) {
	head := numberHead.FindString(text)
	if len(head) == len(text) {
		return api.Value{}, len(text), api.ErrTextEnd
	}
	if text[len(head)] != 'e' || head == "i" || head == "i-" {
		return api.Value{}, len(head), api.ErrTextByte
	}
	m := wholeInt.FindStringSubmatch(text)
	if m == nil {
		return api.Value{}, 0, api.ErrTextNumber
	}
	n, _ := new(big.Int).SetString(m[1], 10)
	if !n.IsInt64() {
		return api.Value{}, 0, api.ErrTextNumber
	}
	return num(int(n.Int64())), len(m[0]), api.OK
}

// tryString reads a text that begins with a digit.
func tryString(text string) (api.Value, int, api.Errno) {
	head := stringHead.FindString(text)
	if len(head) == len(text) {
		return api.Value{}, len(text), api.ErrTextEnd
	}
	if text[len(head)] != ':' {
		return api.Value{}, len(head), api.ErrTextByte
	}
	m := wholeCount.FindStringSubmatch(text)
	if m == nil {
		return api.Value{}, 0, api.ErrTextNumber
	}
	n, _ := new(big.Int).SetString(m[1], 10)
	rest := text[len(m[0]):]
	if n.Cmp(big.NewInt(int64(len(rest)))) > 0 {
		return api.Value{}, len(text), api.ErrTextEnd
	}
	return str(rest[:n.Int64()]), len(m[0]) + int(n.Int64()), api.OK
}

// holds looks whether both readings of a text answer what they must, and whether the text is written again as it was.
func holds(t *testing.T, text string) {
	t.Helper()
	want, n, e := tryRead(text)
	v, at, got := bencode.Prefix([]byte(text))
	if show(v) != show(want) || at != n || got != e {
		t.Fatalf("P2.2: Prefix(%.80q) = %s, %d, %d; want %s, %d, %d", text, short(v), at, got, short(want), n, e)
	}
	if e == api.OK && n == len(text) {
		n = 0
	} else if e == api.OK {
		want, e = api.Value{}, api.ErrTextTrail
	}
	v, at, got = bencode.Decode([]byte(text))
	if show(v) != show(want) || at != n || got != e {
		t.Fatalf("P2.1: Decode(%.80q) = %s, %d, %d; want %s, %d, %d", text, short(v), at, got, short(want), n, e)
	}
	if e != api.OK {
		return
	}
	if e := bencode.Valid(v); e != api.OK {
		t.Fatalf("P2.8: Decode(%.80q) is not valid: %d", text, e)
	}
	if b, e := bencode.Encode(v); string(b) != text || e != api.OK {
		t.Fatalf("P2.8: Encode of Decode(%.80q) = %.80q, %d", text, b, e)
	}
}

// P2.1, P2.2: the chapter's examples.
func TestReadExamples(t *testing.T) {
	for _, c := range []struct {
		text  string
		v     api.Value
		place int
		e     api.Errno
	}{
		{"i0e", num(0), 0, api.OK},
		{"i-12e", num(-12), 0, api.OK},
		{"i-0e", api.Value{}, 0, api.ErrTextNumber},
		{"i007e", api.Value{}, 0, api.ErrTextNumber},
		{"i9223372036854775808e", api.Value{}, 0, api.ErrTextNumber},
		{"ie", api.Value{}, 1, api.ErrTextByte},
		{"i-e", api.Value{}, 2, api.ErrTextByte},
		{"i3", api.Value{}, 2, api.ErrTextEnd},
		{"li1ei1e", api.Value{}, 7, api.ErrTextEnd},
		{"0:", str(""), 0, api.OK},
		{"03:abc", api.Value{}, 0, api.ErrTextNumber},
		{"l4:spam03:abc", api.Value{}, 7, api.ErrTextNumber},
		{"5:spam", api.Value{}, 6, api.ErrTextEnd},
		{"99999999999999999999:x", api.Value{}, 22, api.ErrTextEnd},
		{"d1:bi1e1:ai2ee", api.Value{}, 7, api.ErrTextKey},
		{"d1:ai1e1:ai2ee", api.Value{}, 7, api.ErrTextKey},
		{"di1ei2ee", api.Value{}, 1, api.ErrTextByte},
		{"d1:ae", api.Value{}, 4, api.ErrTextByte},
		{"d1:ai1e2:aai2ee", dict(pair("a", num(1)), pair("aa", num(2))), 0, api.OK},
		{"lee", api.Value{}, 2, api.ErrTextTrail},
		{"i1ei2e", api.Value{}, 3, api.ErrTextTrail},
		{"", api.Value{}, 0, api.ErrTextEnd},
		{strings.Repeat("l", 33) + strings.Repeat("e", 33), api.Value{}, 32, api.ErrTextDepth},
		{strings.Repeat("l", 32) + strings.Repeat("e", 32), nest(list(), 31), 0, api.OK},
	} {
		v, place, e := bencode.Decode([]byte(c.text))
		if show(v) != show(c.v) || place != c.place || e != c.e {
			t.Errorf("P2.1: Decode(%q) = %s, %d, %d", c.text, short(v), place, e)
		}
	}
	if v, n, e := bencode.Prefix([]byte("3:abcxyz")); show(v) != show(str("abc")) || n != 5 || e != api.OK {
		t.Errorf("P2.2: Prefix(3:abcxyz) = %s, %d, %d", short(v), n, e)
	}
	if v, place, e := bencode.Decode(nil); show(v) != noValue || place != 0 || e != api.ErrTextEnd {
		t.Errorf("P2.1: Decode(nil) = %s, %d, %d", short(v), place, e)
	}
}

// P2.1, P2.2, P2.8: every text of up to seven bytes out of those that mean something, and one that means nothing; past a fault that stays (P2.10), a trail among them, no longer ones are tried.
func TestReadShortTexts(t *testing.T) {
	const letters = "ilde012-:a"
	var all func(text string, more int)
	all = func(text string, more int) {
		holds(t, text)
		if _, n, e := tryRead(text); n < len(text) || e != api.ErrTextEnd && e != api.OK {
			return
		}
		for i := 0; more > 0 && i < len(letters); i++ {
			all(text+letters[i:i+1], more-1)
		}
	}
	all("", 7)
}

// P2.1: each of the 256 bytes, wherever a byte is looked at.
func TestReadEveryByte(t *testing.T) {
	for c := range 256 {
		b := string([]byte{byte(c)})
		for _, ahead := range []string{"", "i", "i-", "i1", "i-1", "i0", "1", "0", "l", "li1e", "d", "d1:a", "d1:ai1e", "1:", "i1e", "d1:bi1e1:"} {
			for _, behind := range []string{"", "e", "1:ae", "ee"} {
				holds(t, ahead+b+behind)
			}
		}
	}
}

// P2.1, P2.2, P2.8, P2.9: texts of values, cut anywhere, with one byte changed, left out or laid in between, or with others behind them.
func TestReadSpoiledTexts(t *testing.T) {
	r := rand.New(rand.NewSource(1))
	for range 1500 {
		text := textOf(randomValue(r, 4))
		holds(t, text)
		for i := range text {
			holds(t, text[:i])
		}
		for range 20 {
			i, c := r.Intn(len(text)), string("ilde0159-:a\x00\xff"[r.Intn(13)])
			holds(t, text[:i]+c+text[i+1:])
			holds(t, text[:i]+c+text[i:])
			holds(t, text[:i]+text[i+1:])
		}
	}
}

// P2.1: numbers at the bounds of int, and beyond them by one and by many digits.
func TestReadNumberBounds(t *testing.T) {
	for _, text := range []string{
		"i9223372036854775806e", "i9223372036854775807e", "i9223372036854775808e", "i9223372036854775809e", "i18446744073709551616e", "i18446744073709551617e",
		"i-9223372036854775807e", "i-9223372036854775808e", "i-9223372036854775809e", "i-18446744073709551615e",
		"i" + strings.Repeat("9", 1000) + "e", "i-" + strings.Repeat("9", 1000) + "e", "i" + strings.Repeat("0", 1000) + "e", "i1" + strings.Repeat("0", 1000), "i1" + strings.Repeat("0", 1000) + "-",
		"i00e", "i-00e", "i-01e", "i01", "i01x", "i+1e", "i 1e", "i1 e", "i1_0e", "i0x1e", "i--1e", "i1-e", "i-",
	} {
		holds(t, text)
		holds(t, "l"+text+"e")
	}
}

// P2.1: how long a string says that it is: just so long, one byte short, more than any number holds.
func TestReadStringBounds(t *testing.T) {
	for _, text := range []string{
		"1:", "1:a", "1:ab", "2:a", "9:123456789", "10:1234567890", "10:123456789", "010:1234567890", "00:", "01:a", "01", "01x", "0", "0x",
		"9223372036854775807:", "9223372036854775808:", "18446744073709551616:", "18446744073709551617:a", strings.Repeat("9", 1000) + ":a", "1" + strings.Repeat("0", 1000), "-1:a", "1-:a", "+1:a", "1 :a",
	} {
		holds(t, text)
		holds(t, "l"+text+"e")
		holds(t, "d"+text+"i1ee")
		holds(t, "d0:le"+text+"i1ee")
	}
}

// P2.1: keys are compared as bytes, the shorter one of two that begin alike first.
func TestReadKeys(t *testing.T) {
	keys := []string{"", "\x00", "\x00\x00", "A", "a", "a\x00", "aa", "ab", "b", "\x7f", "\x80", "\xc3\xa9", "\xff", "\xff\xff"}
	for i, a := range keys {
		for j, b := range keys {
			text := "d" + textOf(str(a)) + "i1e" + textOf(str(b)) + "i2ee"
			holds(t, text)
			_, place, e := bencode.Decode([]byte(text))
			if i < j && (place != 0 || e != api.OK) {
				t.Errorf("P2.1: %q ahead of %q: %d, %d", a, b, place, e)
			}
			if at := 1 + len(textOf(str(a))) + 3; i >= j && (place != at || e != api.ErrTextKey) {
				t.Errorf("P2.1: %q behind %q: %d, %d", b, a, place, e)
			}
		}
	}
	holds(t, "d1:ai1e1:bi1e1:ai1ee")
	holds(t, "d1:bd1:ai1eee")    // the keys of another dictionary are not held against these
	holds(t, "d1:ai1e1:a")       // the key counts as soon as it is there whole
	holds(t, "d1:ai1e01:bi1ee")  // its number ahead of its order
	holds(t, "d1:bi1e1:ax")      // and its order ahead of what follows it
	holds(t, "d1:bi1e2:a")       // but not when it isn't whole
	holds(t, "d1:ali1ee1:ai1ee") // behind a value that is a list
}

// P2.1: 31, 32 and 33 lists and dictionaries in one another, with something in the innermost.
func TestReadDepth(t *testing.T) {
	for n := 30; n <= 34; n++ {
		for _, in := range []string{"", "i1e", "1:a", "x", "e", "l", "d", "le", "de"} {
			for _, open := range []string{"l", "d1:k", "d0:"} {
				text := strings.Repeat(open, n) + in
				holds(t, text)
				holds(t, text+strings.Repeat("e", n))
				holds(t, "l"+text+strings.Repeat("e", n)+"e")
			}
		}
	}
	place := func(text string) int {
		_, at, e := bencode.Decode([]byte(text))
		if e != api.ErrTextDepth {
			t.Fatalf("P2.1: Decode(%q): %d", text, e)
		}
		return at
	}
	if at := place(strings.Repeat("d0:", 33)); at != 96 {
		t.Errorf("P2.1: place of a dictionary too deep: %d", at)
	}
	if at := place("l" + strings.Repeat("l", 31) + strings.Repeat("e", 31) + strings.Repeat("l", 32)); at != 1+62+31 {
		t.Errorf("P2.1: place of a list too deep, behind one that isn't: %d", at)
	}
}

// P2.1, P2.2: MaxText bytes are read, one more is too long, whatever they are and wherever the value ends.
func TestReadLongest(t *testing.T) {
	whole := func(n int) string { // a string whose text has n bytes
		return textOf(str(strings.Repeat("q", n-len("1048568:"))))
	}
	for _, n := range []int{api.MaxText - 1, api.MaxText} {
		text := whole(n)
		if v, place, e := bencode.Decode([]byte(text)); textOf(v) != text || place != 0 || e != api.OK {
			t.Errorf("P2.1: a text of %d bytes: %d, %d", n, place, e)
		}
		if v, at, e := bencode.Prefix([]byte(text)); textOf(v) != text || at != n || e != api.OK {
			t.Errorf("P2.2: a text of %d bytes: %d, %d", n, at, e)
		}
	}
	for _, text := range []string{whole(api.MaxText + 1), "i0e" + strings.Repeat("x", api.MaxText-2), strings.Repeat("x", api.MaxText+1), strings.Repeat("l", 3*api.MaxText)} {
		if v, place, e := bencode.Decode([]byte(text)); show(v) != noValue || place != 0 || e != api.ErrTextLong {
			t.Errorf("P2.1: Decode of %d bytes: %d, %d", len(text), place, e)
		}
		if v, at, e := bencode.Prefix([]byte(text)); show(v) != noValue || at != 0 || e != api.ErrTextLong {
			t.Errorf("P2.2: Prefix of %d bytes: %d, %d", len(text), at, e)
		}
	}
	text := "i0e" + strings.Repeat("x", api.MaxText-3)
	if v, place, e := bencode.Decode([]byte(text)); show(v) != noValue || place != 3 || e != api.ErrTextTrail {
		t.Errorf("P2.1: a long trail: %d, %d", place, e)
	}
	if v, at, e := bencode.Prefix([]byte(text)); show(v) != show(num(0)) || at != 3 || e != api.OK {
		t.Errorf("P2.2: a long trail: %d, %d", at, e)
	}
	for _, unit := range []string{"le", "0:", "i", "1", "d0:"} { // the most there can be of something
		holds(t, "l"+strings.Repeat(unit, (api.MaxText-2)/len(unit))+"e")
	}
}

// P2.8: what was written is read again, and no two texts have one value.
func TestWrittenIsRead(t *testing.T) {
	r := rand.New(rand.NewSource(2))
	texts := map[string]string{}
	for range 20000 {
		v := randomValue(r, r.Intn(6))
		b, e := bencode.Encode(v)
		if e != api.OK {
			t.Fatalf("P2.3: Encode(%s): %d", short(v), e)
		}
		w, place, e := bencode.Decode(b)
		if show(w) != show(v) || place != 0 || e != api.OK {
			t.Fatalf("P2.8: Decode of Encode(%s) = %s, %d, %d", short(v), short(w), place, e)
		}
		if text, known := texts[show(v)]; known && text != string(b) {
			t.Fatalf("P2.8: two texts of %s", short(v))
		}
		texts[show(v)] = string(b)
	}
}

// P2.9: what follows a text changes nothing about its value.
func TestNoTextGoesOn(t *testing.T) {
	r := rand.New(rand.NewSource(3))
	for range 5000 {
		v := randomValue(r, r.Intn(4))
		b, _ := bencode.Encode(v)
		for _, behind := range []string{"", "e", "0", "9", ":", "i1e", "l", "d", "-", "\x00", randomText(r), textOf(randomValue(r, 2))} {
			got, n, e := bencode.Prefix([]byte(string(b) + behind))
			if show(got) != show(v) || n != len(b) || e != api.OK {
				t.Fatalf("P2.9: Prefix(%q and %q) = %s, %d, %d", b, behind, short(got), n, e)
			}
		}
	}
	b, _ := bencode.Encode(str("abc"))
	full := string(b) + strings.Repeat("9", api.MaxText-len(b))
	if v, n, e := bencode.Prefix([]byte(full)); show(v) != show(str("abc")) || n != len(b) || e != api.OK {
		t.Errorf("P2.9: with as many bytes behind it as there may be: %d, %d", n, e)
	}
}

// P2.10: a fault that isn't the text's end stays, whatever follows.
func TestFaultStays(t *testing.T) {
	r := rand.New(rand.NewSource(4))
	seen := map[api.Errno]int{}
	stays := func(text string) {
		_, place, e := bencode.Decode([]byte(text))
		if e == api.OK || e == api.ErrTextEnd {
			return
		}
		seen[e]++
		for _, behind := range []string{"e", "i1e", "0:", ":", "l", "\xff", randomText(r), strings.Repeat("e", 40)} {
			v, at, again := bencode.Decode([]byte(text + behind))
			if show(v) != noValue || at != place || again != e {
				t.Fatalf("P2.10: Decode(%q) has %d at %d, but with %q behind it %d at %d", text, e, place, behind, again, at)
			}
		}
	}
	for range 20000 {
		text := textOf(randomValue(r, 3))
		i, c := r.Intn(len(text)), string("ilde0159-:a"[r.Intn(11)])
		stays(text[:i] + c + text[r.Intn(i+1):])
		stays(text[:i] + c)
		stays(text + c)
		stays(strings.Repeat("l", 30) + text)
	}
	for _, e := range []api.Errno{api.ErrTextByte, api.ErrTextNumber, api.ErrTextDepth, api.ErrTextKey, api.ErrTextTrail} {
		if seen[e] < 20 {
			t.Errorf("P2.10: the fault %d was met only %d times", e, seen[e])
		}
	}
	full := "i00e" + strings.Repeat("e", api.MaxText-4)
	if _, place, e := bencode.Decode([]byte(full)); place != 0 || e != api.ErrTextNumber {
		t.Errorf("P2.10: with as many bytes behind it as there may be: %d, %d", place, e)
	}
}
