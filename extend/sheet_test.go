package extend_test

import (
	"bytes"
	"fmt"
	"math"
	"math/rand"
	"slices"
	"strconv"
	"strings"
	"testing"

	"torrent/api"
	"torrent/bencode"
	"torrent/extend"
)

// sameSheet holds EncodeSheet against the plain one, and reads its text again.
func sameSheet(t *testing.T, s api.Sheet) api.Errno {
	t.Helper()
	b, e := extend.EncodeSheet(s)
	want, f := plainEncodeSheet(s)
	if e != f || string(b) != want {
		t.Fatalf("P21.7: EncodeSheet(%s) = %s, %d, want %s, %d", brief(showSheet(s)), brief(string(b)), e, brief(want), f)
	}
	if e != api.OK {
		return e
	}
	back, g := extend.DecodeSheet(b)
	if g != api.OK || showSheet(back) != showSheet(s) {
		t.Fatalf("P21.9: DecodeSheet of the text of %s = %s, %d", brief(showSheet(s)), brief(showSheet(back)), g)
	}
	return api.OK
}

// sameSheetText holds DecodeSheet against the plain one, and writes its sheet again.
func sameSheetText(t *testing.T, b []byte) api.Errno {
	t.Helper()
	s, e := extend.DecodeSheet(b)
	want, f := plainDecodeSheet(b)
	if e != f || showSheet(s) != showSheet(want) {
		t.Fatalf("P21.8: DecodeSheet(%s) = %s, %d, want %s, %d", brief(fmt.Sprintf("%q", b)), brief(showSheet(s)), e, brief(showSheet(want)), f)
	}
	if e != api.OK {
		return e
	}
	again, g := extend.EncodeSheet(s)
	if g != api.OK || !bytes.Equal(again, b) {
		t.Fatalf("P21.9: EncodeSheet of what %s is = %s, %d", brief(fmt.Sprintf("%q", b)), brief(string(again)), g)
	}
	return api.OK
}

// P21.7, P21.9: each field at its edges, with each kind.
func TestSheetEdges(t *testing.T) {
	count := map[api.Errno]int{}
	numbers := []int{math.MinInt, -1 << 32, -2, -1, 0, 1, 2, 3, 4, api.MaxText, api.MaxText + 1, 1 << 32, 1<<32 + 1, math.MaxInt}
	for _, kind := range numbers {
		for _, part := range numbers {
			for _, total := range numbers {
				for _, data := range []string{"", "x", "e", "de", "d8:msg_typei0e5:piecei2ee"} {
					count[sameSheet(t, api.Sheet{Kind: kind, Part: part, Total: total, Data: []byte(data)})]++
				}
			}
		}
	}
	if count[api.OK] < 100 || count[api.ErrExtForm] < 100 || len(count) != 2 {
		t.Errorf("too tame: %v", count)
	}
}

// P21.7: texts about the limit, and faults ahead of lengths.
func TestLongSheets(t *testing.T) {
	for _, head := range []api.Sheet{{Kind: api.SheetData, Total: 1}, {Kind: api.SheetData, Part: math.MaxInt, Total: api.MaxText}} {
		room := maxPayload - len(plainSheetText(head))
		for _, n := range []int{room - 1, room, room + 1, maxPayload, 2 * api.MaxText} {
			s, want := head, api.OK
			s.Data = bytes.Repeat([]byte("e"), n)
			if n > room {
				want = api.ErrExtSize
			}
			if e := sameSheet(t, s); e != want {
				t.Errorf("P21.7: %d bytes of data: %d, want %d", n, e, want)
			}
			for _, s := range []api.Sheet{{Kind: 0, Data: s.Data}, {Kind: 2, Data: s.Data}, {Kind: 1, Data: s.Data}, {Kind: 1, Part: -1, Total: 1, Data: s.Data}} {
				if e := sameSheet(t, s); e != api.ErrExtForm {
					t.Errorf("P21.7: %d bytes of data in no good sheet: %d", n, e)
				}
			}
		}
	}
}

// P21.8: all rows of up to four tokens behind a d, and of up to five behind the kind, with and without an e and bytes behind it.
func TestAllShortSheetTexts(t *testing.T) {
	tokens := sheetTokens()
	count := map[api.Errno]int{}
	var row func(text string, left int)
	row = func(text string, left int) {
		for _, end := range []string{"", "e", "ee", "ex"} {
			count[sameSheetText(t, []byte(text+end))]++
		}
		if left == 0 {
			return
		}
		for _, k := range tokens {
			e := sameSheetText(t, []byte(text+k))
			count[e]++
			if e == api.ErrTextEnd {
				row(text+k, left-1)
			}
		}
	}
	row("d", 4)
	for kind := range 4 {
		row("d8:msg_typei"+strconv.Itoa(kind)+"e", 5)
	}
	if count[api.OK] < 20 || count[api.ErrExtForm] < 1000 || count[api.ErrExtKind] < 100 || count[api.ErrTextKey] < 100 {
		t.Errorf("too tame: %v", count)
	}
}

// P21.8: sheets' texts with one value put in the place of another, one more, or one less.
func TestRandomSheetTexts(t *testing.T) {
	r := rand.New(rand.NewSource(7))
	count := map[api.Errno]int{}
	for range 30000 {
		s := randomSheet(r)
		count[sameSheet(t, s)]++
		v := dict(pair("msg_type", num(s.Kind)), pair("piece", num(s.Part)))
		if s.Kind == api.SheetData {
			v.Dict = append(v.Dict, pair("total_size", num(s.Total)))
		}
		key := []string{"msg_type", "piece", "total_size", "a", "z", "n"}[r.Intn(6)]
		switch r.Intn(4) {
		case 0:
			v, _ = bencode.With(v, key, randomValue(r, 2))
		case 1:
			v, _ = bencode.With(v, key, num(randomNumber(r)))
		case 2:
			v.Dict = slices.DeleteFunc(v.Dict, func(p api.Pair) bool { return p.Key == key })
		}
		count[sameSheetText(t, append([]byte(textOf(v)), s.Data...))]++
		count[sameSheetText(t, []byte(textOf(randomValue(r, 3))+"x"))]++
	}
	if count[api.OK] < 5000 || count[api.ErrExtForm] < 5000 || count[api.ErrExtKind] < 1000 {
		t.Errorf("too tame: %v", count)
	}
}

// P21.8: the kind is looked at ahead of all else in the dictionary, and what bencode says ahead of that.
func TestSheetKindFirst(t *testing.T) {
	for _, kind := range []int{math.MinInt, -1, 3, 4, 256, 1 << 32, 1<<32 + 1, math.MaxInt} {
		for _, rest := range []string{"e", "ex", "5:piecei-1ee", "5:piecelee", "5:piecei0eexyz", "9:msg_type2i1eex"} {
			text := fmt.Sprintf("d1:ai0e8:msg_typei%de%s", kind, rest)
			if e := sameSheetText(t, []byte(text)); e != api.ErrExtKind {
				t.Errorf("P21.8: %s: %d", text, e)
			}
		}
		for text, want := range map[string]api.Errno{"": api.ErrTextEnd, "5:piecei00ee": api.ErrTextNumber, "1:ai0ee": api.ErrTextKey, "x": api.ErrTextByte} {
			text = fmt.Sprintf("d8:msg_typei%de%s", kind, text)
			if e := sameSheetText(t, []byte(text)); e != want {
				t.Errorf("P21.8: %s: %d, want %d", text, e, want)
			}
		}
	}
}

// P21.8: lengths at the limit, ahead of all else that may be wrong.
func TestLongSheetTexts(t *testing.T) {
	head := "d8:msg_typei1e5:piecei0e10:total_sizei5ee"
	for n := maxPayload - 2; n <= maxPayload+2; n++ {
		for text, want := range map[string]api.Errno{head: api.OK, "x": api.ErrTextByte, "d8:msg_typei9ee": api.ErrExtKind, "le": api.ErrExtForm} {
			if n > maxPayload {
				want = api.ErrExtSize
			}
			if e := sameSheetText(t, []byte(text+strings.Repeat("e", n-len(text)))); e != want {
				t.Errorf("P21.8: %s with %d bytes in all: %d, want %d", text, n, e, want)
			}
		}
	}
	if e := sameSheetText(t, make([]byte, 2*api.MaxText)); e != api.ErrExtSize {
		t.Errorf("P21.8: of a text that is too long for any: %d", e)
	}
}
