package bitset_test

import (
	"slices"
	"strings"
	"testing"

	"torrent/api"
	"torrent/bitset"
)

// P4.1: bitfields of which none and of which all bits are set, their spare bits zero, at every number of bits up to the limit that tells another length or another last byte.
func TestMake(t *testing.T) {
	sizes := []int{1000, 4096, api.MaxBits - 8, api.MaxBits - 7, api.MaxBits - 1, api.MaxBits}
	for n := range 70 {
		sizes = append(sizes, n)
	}
	for _, n := range sizes {
		b, e := bitset.Make(n)
		same(t, call("Make", n, nil), b, e, pack(strings.Repeat("0", n)))
		b, e = bitset.Full(n)
		same(t, call("Full", n, nil), b, e, pack(strings.Repeat("1", n)))
	}
	if b, _ := bitset.Full(api.MaxBits); len(b) != 8192 {
		t.Errorf("Full(MaxBits) has %d bytes", len(b))
	}
	for _, n := range []int{-1, -8, -1 << 63, api.MaxBits + 1, api.MaxBits + 8, 1 << 40, 1<<63 - 1} {
		b, e := bitset.Make(n)
		none(t, call("Make", n, nil), b, e, api.ErrBits)
		b, e = bitset.Full(n)
		none(t, call("Full", n, nil), b, e, api.ErrBits)
	}
}

// P4.1, P4.2: the examples that the chapter writes out.
func TestExamples(t *testing.T) {
	for _, c := range []struct {
		n          int
		none, full []byte
	}{{0, nil, nil}, {1, []byte{0}, []byte{128}}, {7, []byte{0}, []byte{254}}, {8, []byte{0}, []byte{255}}, {9, []byte{0, 0}, []byte{255, 128}}} {
		b, e := bitset.Make(c.n)
		same(t, call("Make", c.n, nil), b, e, c.none)
		b, e = bitset.Full(c.n)
		same(t, call("Full", c.n, nil), b, e, c.full)
		if bitset.Check(c.n, c.none) != api.OK || bitset.Check(c.n, c.full) != api.OK {
			t.Errorf("Check refuses bitfields of %d bits", c.n)
		}
	}
	if e := bitset.Check(9, []byte{255, 192}); e != api.ErrSpare {
		t.Errorf("Check(9, 255 192) = %d", e)
	}
}

// P4.2: what is a bitfield, over all lists of up to two bytes and all lengths around them; then the edges.
func TestCheck(t *testing.T) {
	for n := -1; n <= 18; n++ {
		for x := range 1 << 16 {
			one, two := []byte{byte(x >> 8)}, []byte{byte(x >> 8), byte(x)}
			for _, b := range [][]byte{nil, one, two} {
				want := api.OK
				switch {
				case n < 0:
					want = api.ErrBits
				case n > 8*len(b) || n <= 8*len(b)-8:
					want = api.ErrBytes
				case x>>(16-8*len(b))%(1<<(8*len(b)-n)) != 0:
					want = api.ErrSpare
				}
				if e := bitset.Check(n, b); e != want {
					t.Fatalf("%s = %d, want %d", call("Check", n, b), e, want)
				}
			}
		}
	}
	for _, w := range wrongs() {
		if e := bitset.Check(w.n, w.b); e != w.e {
			t.Errorf("%s = %d, want %d", call("Check", w.n, w.b), e, w.e)
		}
	}
	for _, s := range texts() {
		if e := bitset.Check(len(s), pack(s)); e != api.OK {
			t.Errorf("%s = %d", call("Check", len(s), pack(s)), e)
		}
	}
}

// P4.2, P4.10: every call answers first what Check answers, ahead of a place that is not there, and with it nothing else.
func TestRefused(t *testing.T) {
	for _, w := range wrongs() {
		for _, i := range []int{0, -1, 1 << 62} {
			if on, e := bitset.Get(w.n, w.b, i); on || e != w.e {
				t.Errorf("%s: %v, %d, want %d", call("Get", w.n, w.b), on, e, w.e)
			}
			b, e := bitset.Put(w.n, w.b, i, true)
			none(t, call("Put", w.n, w.b), b, e, w.e)
			for _, on := range []bool{false, true} {
				if at, e := bitset.Next(w.n, w.b, i, on); at != 0 || e != w.e {
					t.Errorf("%s: %d, %d, want %d", call("Next", w.n, w.b), at, e, w.e)
				}
			}
		}
		if k, e := bitset.Count(w.n, w.b); k != 0 || e != w.e {
			t.Errorf("%s: %d, %d, want %d", call("Count", w.n, w.b), k, e, w.e)
		}
		ones, e := bitset.Ones(w.n, w.b)
		none(t, call("Ones", w.n, w.b), ones, e, w.e)
		runs, e := bitset.Runs(w.n, w.b)
		none(t, call("Runs", w.n, w.b), runs, e, w.e)
		not, e := bitset.Not(w.n, w.b)
		none(t, call("Not", w.n, w.b), not, e, w.e)
		if l := listed(w.n, w.b); len(l) != 0 {
			t.Errorf("%s gives %v", call("Walk", w.n, w.b), l)
		}
	}
}

// P4.3: each bit is told, and set and taken away alone.
func TestGetPut(t *testing.T) {
	for _, s := range texts() {
		b := pack(s)
		for _, i := range sample(len(s)) {
			if on, e := bitset.Get(len(s), b, i); on != (s[i] == '1') || e != api.OK {
				t.Fatalf("%s, bit %d: %v, %d", call("Get", len(s), b), i, on, e)
			}
			p, e := bitset.Put(len(s), b, i, true)
			same(t, call("Put on", len(s), b), p, e, pack(s[:i]+"1"+s[i+1:]))
			p, e = bitset.Put(len(s), b, i, false)
			same(t, call("Put off", len(s), b), p, e, pack(s[:i]+"0"+s[i+1:]))
		}
		for _, i := range []int{-1, -8, -1 << 63, len(s), len(s) + 1, len(s) + 8, 1<<63 - 1} {
			if on, e := bitset.Get(len(s), b, i); on || e != api.ErrIndex {
				t.Errorf("%s, bit %d: %v, %d", call("Get", len(s), b), i, on, e)
			}
			for _, on := range []bool{false, true} {
				p, e := bitset.Put(len(s), b, i, on)
				none(t, call("Put", len(s), b), p, e, api.ErrIndex)
			}
		}
	}
}

// sample is each place of a short bitfield, and those at the ends and around the middle of a long one.
func sample(n int) []int {
	var l []int
	for i := range n {
		if n <= 100 || i < 10 || i >= n-10 || i/10 == n/20 {
			l = append(l, i)
		}
	}
	return l
}

// P4.5: the bitfield of the places that are named, in whatever order and however often.
func TestOf(t *testing.T) {
	for _, s := range texts() {
		ones := places(s, '1')
		b, e := bitset.Of(len(s), ones)
		same(t, call("Of", len(s), nil), b, e, pack(s))
		slices.Reverse(ones)
		b, e = bitset.Of(len(s), ones)
		same(t, call("Of reversed", len(s), nil), b, e, pack(s))
		b, e = bitset.Of(len(s), append(places(s, '1'), ones...))
		same(t, call("Of twice", len(s), nil), b, e, pack(s))
	}
	b, e := bitset.Of(10, []int{9, 1, 7, 1})
	same(t, "Of(10, 9 1 7 1)", b, e, []byte{65, 64})
	b, e = bitset.Of(3, []int{})
	same(t, "Of(3, none)", b, e, []byte{0})
	b, e = bitset.Of(api.MaxBits, []int{api.MaxBits - 1})
	same(t, "Of(MaxBits, the last)", b, e, append(make([]byte, 8191), 1))
}

// P4.5: places that are not there, wherever in the list they stand; a number of bits that may not be comes first.
func TestOfRefuses(t *testing.T) {
	for _, c := range []struct {
		n    int
		ones []int
	}{
		{10, []int{10}}, {10, []int{-1}}, {10, []int{15}}, {10, []int{16}}, {10, []int{0, 1 << 62}}, {10, []int{-1 << 63, 3}}, {10, []int{1, 1, 11, 1}}, {0, []int{0}},
		{8, []int{8}}, {api.MaxBits, []int{api.MaxBits}}, {api.MaxBits - 1, []int{api.MaxBits - 1}},
	} {
		b, e := bitset.Of(c.n, c.ones)
		none(t, call("Of", c.n, nil), b, e, api.ErrIndex)
	}
	for _, n := range []int{-1, -1 << 63, api.MaxBits + 1, 1<<63 - 1} {
		for _, ones := range [][]int{nil, {0}, {-1}, {1 << 62}} {
			b, e := bitset.Of(n, ones)
			none(t, call("Of", n, nil), b, e, api.ErrBits)
		}
	}
}
