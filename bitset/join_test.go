package bitset_test

import (
	"slices"
	"strings"
	"testing"

	"torrent/api"
	"torrent/bitset"
)

// joined is the text whose digit at each place is 1 if the function says so of the two texts' digits.
func joined(a, b string, of func(x, y bool) bool) []byte {
	out := []byte(strings.Repeat("0", len(a)))
	for i := range out {
		if of(a[i] == '1', b[i] == '1') {
			out[i] = '1'
		}
	}
	return pack(string(out))
}

// checkJoin holds all calls on two bitfields against their texts.
func checkJoin(t *testing.T, s, u string) {
	t.Helper()
	n, a, b := len(s), pack(s), pack(u)
	got, e := bitset.And(n, a, b)
	same(t, call("And", n, a), got, e, joined(s, u, func(x, y bool) bool { return x && y }))
	got, e = bitset.Or(n, a, b)
	same(t, call("Or", n, a), got, e, joined(s, u, func(x, y bool) bool { return x || y }))
	got, e = bitset.Minus(n, a, b)
	less := joined(s, u, func(x, y bool) bool { return x && !y })
	same(t, call("Minus", n, a), got, e, less)
	ok, e := bitset.Covers(n, b, a)
	if e != api.OK || ok != !slices.ContainsFunc(less, func(x byte) bool { return x != 0 }) {
		t.Fatalf("%s over %s: %v, %d", call("Covers", n, b), short(a), ok, e)
	}
}

// P4.6: all pairs of bitfields of up to 6 bits, and long ones.
func TestJoin(t *testing.T) {
	byLength := map[int][]string{}
	for _, s := range texts() {
		byLength[len(s)] = append(byLength[len(s)], s)
	}
	for n, l := range byLength {
		if n > 6 && n <= 12 {
			continue
		}
		for _, s := range l {
			for _, u := range l {
				checkJoin(t, s, u)
			}
		}
	}
}

// P4.6: the bits that a bitfield hasn't; spare bits stay zero.
func TestNot(t *testing.T) {
	for _, s := range texts() {
		got, e := bitset.Not(len(s), pack(s))
		same(t, call("Not", len(s), pack(s)), got, e, pack(strings.NewReplacer("0", "1", "1", "0").Replace(s)))
	}
}

// P4.6: what a bitfield covers: itself, none, what lies within it; not one bit more, be it the first or the last.
func TestCovers(t *testing.T) {
	for _, c := range []struct {
		n    int
		a, b []byte
		ok   bool
	}{
		{10, []byte{65, 64}, []byte{1, 0}, true}, {10, []byte{1, 0}, []byte{65, 64}, false}, {0, nil, nil, true}, {0, []byte{}, nil, true}, {10, []byte{65, 64}, []byte{65, 64}, true},
		{10, []byte{65, 64}, []byte{0, 0}, true}, {10, []byte{127, 192}, []byte{128, 0}, false}, {10, []byte{255, 128}, []byte{0, 64}, false}, {10, []byte{0, 0}, []byte{0, 0}, true},
	} {
		if ok, e := bitset.Covers(c.n, c.a, c.b); ok != c.ok || e != api.OK {
			t.Errorf("Covers(%d, %v, %v) = %v, %d", c.n, c.a, c.b, ok, e)
		}
	}
}

// P4.6: the chapter's example, its bytes written out.
func TestJoinExample(t *testing.T) {
	a, b := []byte{65, 64}, []byte{64, 192}
	got, e := bitset.And(10, a, b)
	same(t, "And", got, e, []byte{64, 64})
	got, e = bitset.Or(10, a, b)
	same(t, "Or", got, e, []byte{65, 192})
	got, e = bitset.Minus(10, a, b)
	same(t, "Minus", got, e, []byte{1, 0})
	got, e = bitset.Not(10, a)
	same(t, "Not", got, e, []byte{190, 128})
}

// P4.2: of two bitfields all faults of the first come ahead of those of the second.
func TestTwoRefused(t *testing.T) {
	good, long, spare := []byte{65, 64}, []byte{65, 64, 255}, []byte{65, 65}
	for _, c := range []struct {
		n    int
		a, b []byte
		e    api.Errno
	}{
		{10, good, long, api.ErrBytes}, {10, good, nil, api.ErrBytes}, {10, good, spare, api.ErrSpare}, {10, long, good, api.ErrBytes}, {10, spare, good, api.ErrSpare},
		{10, long, spare, api.ErrBytes}, {10, spare, long, api.ErrSpare}, {10, spare, nil, api.ErrSpare}, {10, nil, spare, api.ErrBytes},
		{-1, long, spare, api.ErrBits}, {api.MaxBits + 1, spare, long, api.ErrBits}, {0, nil, []byte{0}, api.ErrBytes}, {0, []byte{0}, nil, api.ErrBytes},
	} {
		got, e := bitset.And(c.n, c.a, c.b)
		none(t, call("And", c.n, c.a), got, e, c.e)
		got, e = bitset.Or(c.n, c.a, c.b)
		none(t, call("Or", c.n, c.a), got, e, c.e)
		got, e = bitset.Minus(c.n, c.a, c.b)
		none(t, call("Minus", c.n, c.a), got, e, c.e)
		if ok, e := bitset.Covers(c.n, c.a, c.b); ok || e != c.e {
			t.Errorf("Covers(%d, %v, %v) = %v, %d, want %d", c.n, c.a, c.b, ok, e, c.e)
		}
	}
}
