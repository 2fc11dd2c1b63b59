package bitset_test

import (
	"bytes"
	"slices"
	"testing"

	"torrent/api"
	"torrent/bitset"
)

// answers are what all calls tell of two bitfields.
type answers struct {
	fields [][]byte
	ones   []int
	runs   []api.Range
}

func ask(n int, a, b []byte, ones []int) answers {
	var out answers
	keep := func(b []byte, e api.Errno) { out.fields = append(out.fields, b) }
	keep(bitset.Make(n))
	keep(bitset.Full(n))
	for i := range n {
		keep(bitset.Put(n, a, i, true))
		keep(bitset.Put(n, a, i, false))
	}
	keep(bitset.Of(n, ones))
	keep(bitset.And(n, a, b))
	keep(bitset.And(n, a, a))
	keep(bitset.Or(n, a, b))
	keep(bitset.Minus(n, a, b))
	keep(bitset.Not(n, a))
	out.ones, _ = bitset.Ones(n, a)
	out.runs, _ = bitset.Runs(n, a)
	bitset.Check(n, a)
	bitset.Get(n, a, 0)
	bitset.Count(n, a)
	bitset.Covers(n, a, b)
	bitset.Next(n, a, 0, true)
	listed(n, a)
	return out
}

func (a answers) equal(b answers) bool {
	return slices.EqualFunc(a.fields, b.fields, bytes.Equal) && slices.Equal(a.ones, b.ones) && slices.Equal(a.runs, b.runs)
}

// spoil writes over all that answers have, their spare room too.
func (a answers) spoil() {
	for _, l := range a.fields {
		l = l[:cap(l)]
		for i := range l {
			l[i] = 85
		}
	}
	clear(a.ones[:cap(a.ones)])
	clear(a.runs[:cap(a.runs)])
}

// P4.10: what is handed in is not changed, its spare room neither, and what is answered does not hang on it.
func TestArguments(t *testing.T) {
	rooms := [][]byte{{65, 64, 1, 2, 3, 4, 5, 6, 7}, {64, 192, 7, 6, 5, 4, 3, 2, 1}}
	places := []int{9, 1, 7, 1, 5, 5, 5, 5}
	got := ask(10, rooms[0][:2], rooms[1][:2], places[:4])
	if !bytes.Equal(rooms[0], []byte{65, 64, 1, 2, 3, 4, 5, 6, 7}) || !bytes.Equal(rooms[1], []byte{64, 192, 7, 6, 5, 4, 3, 2, 1}) || !slices.Equal(places, []int{9, 1, 7, 1, 5, 5, 5, 5}) {
		t.Errorf("changed: %v, %v", rooms, places)
	}
	clear(rooms[0])
	clear(rooms[1])
	clear(places)
	if want := ask(10, []byte{65, 64}, []byte{64, 192}, []int{9, 1, 7, 1}); !got.equal(want) {
		t.Errorf("answers have changed with what was handed in: %v, want %v", got, want)
	}
}

// P4.10, P0.5: an answer shares no memory with an argument or with another answer, its spare room neither.
func TestAnswers(t *testing.T) {
	a, b, ones := []byte{65, 64}, []byte{64, 192}, []int{9, 1, 7, 1}
	want := ask(10, a, b, ones)
	for i, l := range want.fields {
		kept := ask(10, a, b, ones)
		for j := range l[:cap(l)] {
			l[:cap(l)][j] = 85
		}
		want.fields[i] = kept.fields[i]
		if !want.equal(kept) {
			t.Fatalf("answer %d was written into, and another one has changed", i)
		}
	}
	ask(10, a, b, ones).spoil()
	if !bytes.Equal(a, []byte{65, 64}) || !bytes.Equal(b, []byte{64, 192}) || !slices.Equal(ones, []int{9, 1, 7, 1}) {
		t.Fatalf("an argument was written into: %v, %v, %v", a, b, ones)
	}
	if !ask(10, a, b, ones).equal(want) {
		t.Error("another answer was written into")
	}
}

// P0.5: nil and empty are the same.
func TestNil(t *testing.T) {
	for _, b := range [][]byte{nil, {}} {
		if !ask(0, b, nil, nil).equal(ask(0, []byte{}, []byte{}, []int{})) {
			t.Errorf("a bitfield of no bits as %#v", b)
		}
		if ok, e := bitset.Covers(0, b, []byte{}); !ok || e != api.OK {
			t.Errorf("Covers of none: %v, %d", ok, e)
		}
		if at, e := bitset.Next(0, b, 0, true); at != 0 || e != api.OK {
			t.Errorf("Next of none: %d, %d", at, e)
		}
		if _, e := bitset.Get(0, b, 0); e != api.ErrIndex {
			t.Errorf("Get of none: %d", e)
		}
		if e := bitset.Check(8, b); e != api.ErrBytes {
			t.Errorf("Check(8, none): %d", e)
		}
	}
}
