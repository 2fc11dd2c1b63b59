package bitset_test

import (
	"slices"
	"strings"
	"testing"

	"torrent/api"
	"torrent/bitset"
)

// P4.4, P4.9: how many bits are set, and at which places, listed and walked.
func TestOnes(t *testing.T) {
	for _, s := range texts() {
		b, want := pack(s), places(s, '1')
		if ones, e := bitset.Ones(len(s), b); e != api.OK || !slices.Equal(ones, want) {
			t.Fatalf("%s = %v, %d, want %v", call("Ones", len(s), b), ones, e, want)
		}
		if k, e := bitset.Count(len(s), b); e != api.OK || k != len(want) {
			t.Fatalf("%s = %d, %d, want %d", call("Count", len(s), b), k, e, len(want))
		}
		if l := listed(len(s), b); !slices.Equal(l, want) {
			t.Fatalf("%s gives %v, want %v", call("Walk", len(s), b), l, want)
		}
	}
}

// P4.7: the next place of a bit that is on, and of one that is off, from every place on.
func TestNext(t *testing.T) {
	for _, s := range texts() {
		b := pack(s)
		for _, from := range append(sample(len(s)), len(s)) {
			for digit, on := range map[string]bool{"0": false, "1": true} {
				want := len(s)
				if k := strings.Index(s[from:], digit); k >= 0 {
					want = from + k
				}
				if at, e := bitset.Next(len(s), b, from, on); at != want || e != api.OK {
					t.Fatalf("%s, from %d, %v: %d, %d, want %d", call("Next", len(s), b), from, on, at, e, want)
				}
			}
		}
		for _, from := range []int{-1, -1 << 63, len(s) + 1, len(s) + 8, 1<<63 - 1} {
			for _, on := range []bool{false, true} {
				if at, e := bitset.Next(len(s), b, from, on); at != 0 || e != api.ErrIndex {
					t.Errorf("%s, from %d: %d, %d", call("Next", len(s), b), from, at, e)
				}
			}
		}
	}
}

// P4.8: the runs, held against the texts cut at their zeros.
func TestRuns(t *testing.T) {
	for _, s := range texts() {
		var want []api.Range
		at := 0
		for _, run := range strings.Split(s, "0") {
			if run != "" {
				want = append(want, api.Range{From: at, Len: len(run)})
			}
			at += len(run) + 1
		}
		if runs, e := bitset.Runs(len(s), pack(s)); e != api.OK || !slices.Equal(runs, want) {
			t.Fatalf("%s = %v, %d, want %v", call("Runs", len(s), pack(s)), runs, e, want)
		}
	}
	if runs, e := bitset.Runs(10, []byte{227, 192}); e != api.OK || !slices.Equal(runs, []api.Range{{From: 0, Len: 3}, {From: 6, Len: 4}}) {
		t.Errorf("Runs(10, 227 192) = %v, %d", runs, e)
	}
}

// P4.9: a loop may stop behind any place, and is not called again then; the next loop begins anew.
func TestWalkStops(t *testing.T) {
	s := "0100000101100110000000001"
	want := places(s, '1')
	walk := bitset.Walk(len(s), pack(s))
	for stop := 1; stop <= len(want); stop++ {
		var got []int
		walk(func(i int) bool {
			got = append(got, i)
			return len(got) < stop
		})
		if !slices.Equal(got, want[:stop]) {
			t.Errorf("stopped behind %d places, it gave %v", stop, got)
		}
	}
	if got := slices.Collect(walk); !slices.Equal(got, want) {
		t.Errorf("ranged over again, it gives %v", got)
	}
}

// P4.9: loops within loops over one walk don't disturb each other, whether they stop early or not.
func TestWalkNested(t *testing.T) {
	walk := bitset.Walk(10, []byte{65, 64})
	var got []int
	for i := range walk {
		for j := range walk {
			got = append(got, i, j)
			if j == i {
				break
			}
		}
	}
	if !slices.Equal(got, []int{1, 1, 7, 1, 7, 7, 9, 1, 9, 7, 9, 9}) {
		t.Errorf("nested loops gave %v", got)
	}
}

// P4.9: what is written into b behind the call is not seen: ahead of the first loop, between loops, within one; nor does a walk that was refused come to life.
func TestWalkKept(t *testing.T) {
	b := []byte{65, 64}
	walk := bitset.Walk(10, b)
	b[0] = 255
	for range 2 {
		var got []int
		for i := range walk {
			got = append(got, i)
			b[1] ^= 192
		}
		if !slices.Equal(got, []int{1, 7, 9}) {
			t.Errorf("Walk gives %v", got)
		}
		clear(b)
	}
	spare := []byte{65, 65}
	walk = bitset.Walk(10, spare)
	spare[1] = 64
	for i := range walk {
		t.Errorf("a refused walk gives %d", i)
	}
}
