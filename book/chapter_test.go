package book_test

import (
	"math/rand"
	"slices"
	"testing"

	"torrent/api"
)

// ten is the book of the chapter's examples, and the bytes of its first file.
func ten(t *testing.T) (*watch, []byte) {
	t.Helper()
	r := rand.New(rand.NewSource(1))
	a, c := content(r, 1200), content(r, 64)
	return begin(t, own, bare(own, 128, a, c)), a
}

// The chapter's example 1.
func TestKnownOfTheChapter(t *testing.T) {
	x, _ := ten(t)
	if n := x.b.Missing(); n != 10 {
		t.Errorf("Missing = %d", n)
	}
	if h, ok, e := x.b.Known(10); h != x.m.Files[1].Root || !ok || e != api.OK {
		t.Errorf("Known(10) = %v, %v, %d", h, ok, e)
	}
	if h, ok, e := x.b.Known(0); h != (api.Hash{}) || ok || e != api.OK {
		t.Errorf("Known(0) = %v, %v, %d", h, ok, e)
	}
	for _, i := range []int{11, -1} {
		if _, _, e := x.b.Known(i); e != api.ErrPiece {
			t.Errorf("Known(%d): %d", i, e)
		}
	}
}

// The chapter's examples 2 to 6, one behind the other.
func TestTalkOfTheChapter(t *testing.T) {
	x, a := ten(t)
	first := api.Query{Root: x.m.Files[0].Root, Base: 1, Index: 0, Length: 8, Proofs: 3}
	second := first
	second.Index = 8
	right, rest := truth(own, 128, a, first), truth(own, 128, a, second)
	is := func(q, want api.Query) {
		t.Helper()
		if q != want {
			t.Fatalf("the query %v, want %v", q, want)
		}
	}
	told := func(l []int, e api.Errno, want ...int) {
		t.Helper()
		if !slices.Equal(l, want) || e != api.OK {
			t.Fatalf("Accept = %v, %d; want %v", l, e, want)
		}
	}

	is(x.asks(5, 0, 0), first)
	x.asks(5, 0, -1)
	is(x.asks(7, 1, 8), second)
	is(x.asks(9, 1, 0), first)
	if _, _, e := x.b.Next(-1, 0); e != api.ErrArg {
		t.Fatalf("Next(-1, 0): %d", e)
	}

	_, e := x.accept(7, first, right)
	wants(t, "Accept(7, the other's query)", e, api.ErrUnasked)
	if len(right) != 9 {
		t.Fatalf("an answer of %d hashes", len(right))
	}
	l, e := x.accept(5, first, right)
	told(l, e, 0, 1, 2, 3, 4, 5, 6, 7)
	if n := x.b.Missing(); n != 2 {
		t.Fatalf("Missing = %d", n)
	}

	l, e = x.accept(9, first, right)
	told(l, e)
	_, e = x.accept(7, second, turned(rest, 1, 100))
	wants(t, "Accept(7, a bit turned)", e, api.ErrBad)
	x.asks(7, 3, -1)
	is(x.asks(9, 3, 8), second)

	if late := x.expire(10); len(late) != 0 {
		t.Fatalf("Expire(10) = %v", late)
	}
	if late := x.expire(11); !slices.Equal(late, []api.Late{{Peer: 9, Query: second}}) {
		t.Fatalf("Expire(11) = %v", late)
	}
	is(x.asks(9, 11, 8), second)
	wants(t, "Reject(9)", x.reject(9, second), api.OK)
	x.asks(9, 12, -1)

	wants(t, "Drop(7)", x.drop(7), api.OK)
	is(x.asks(7, 12, 8), second)
	if len(rest) != 9 || slices.Contains(rest[2:8], rest[0]) || rest[2] != rest[7] {
		t.Fatal("the row has two hashes of pieces and six of nothing")
	}
	l, e = x.accept(7, second, rest)
	told(l, e, 8, 9)
	if n := x.b.Missing(); n != 0 {
		t.Fatalf("Missing = %d", n)
	}
	x.asks(5, 13, -1)
}

// The chapter's example 4: what is known already may still be answered falsely.
func TestFalseOfTheChapter(t *testing.T) {
	x, a := ten(t)
	q := x.asks(5, 0, 0)
	x.asks(7, 1, 8)
	x.asks(9, 1, 0)
	right := truth(own, 128, a, q)
	_, e := x.accept(5, q, right)
	wants(t, "Accept(5)", e, api.OK)
	_, e = x.accept(9, q, turned(right, 3, 0))
	wants(t, "Accept(9, a bit turned)", e, api.ErrBad)
}
