package book_test

import (
	"math"
	"math/rand"
	"slices"
	"testing"

	"torrent/api"
)

// unlike are queries that differ from one in one field each.
func unlike(q api.Query) []api.Query {
	l := make([]api.Query, 7)
	for i := range l {
		l[i] = q
	}
	l[0].Root[0] ^= 1
	l[1].Root[31] ^= 128
	l[2].Base++
	l[3].Index += 8
	l[4].Length *= 2
	l[5].Proofs--
	return append(l[:6], api.Query{})
}

// P15.5, P15.6: what was not asked in all five fields is refused, and stays asked.
func TestUnasked(t *testing.T) {
	x, a := ten(t)
	first := x.p.parts[0].query
	_, e := x.accept(5, first, truth(own, 128, a, first))
	wants(t, "Accept ahead of all", e, api.ErrUnasked)
	wants(t, "Reject ahead of all", x.reject(5, first), api.ErrUnasked)
	q := x.asks(5, 0, 0)
	second := x.asks(6, 0, 8)
	for _, wrong := range append(unlike(q), second) {
		_, e := x.accept(5, wrong, truth(own, 128, a, q))
		wants(t, "Accept", e, api.ErrUnasked)
		wants(t, "Reject", x.reject(5, wrong), api.ErrUnasked)
		x.asks(5, 0, -1)
	}
	for _, peer := range []int{0, 6, math.MaxInt} {
		_, e := x.accept(peer, q, truth(own, 128, a, q))
		wants(t, "Accept", e, api.ErrUnasked)
		wants(t, "Reject", x.reject(peer, q), api.ErrUnasked)
	}
	for _, peer := range []int{-1, math.MinInt} {
		_, e := x.accept(peer, q, truth(own, 128, a, q))
		wants(t, "Accept", e, api.ErrArg)
		wants(t, "Reject", x.reject(peer, q), api.ErrArg)
	}
	_, e = x.accept(5, q, truth(own, 128, a, q))
	wants(t, "Accept", e, api.OK)
	_, e = x.accept(5, q, truth(own, 128, a, q))
	wants(t, "Accept a second time", e, api.ErrUnasked)
	wants(t, "Reject behind the answer", x.reject(5, q), api.ErrUnasked)
}

// P15.5: an answer with whichever hash wrong, of the row or an uncle, or with too few or too many, is false: nothing becomes known, and the peer is barred from the chunk and from no other.
func TestBad(t *testing.T) {
	r := rand.New(rand.NewSource(8))
	data := content(r, 64*20)
	m := bare(own, 64, data)
	for index := 0; index < 20; index += 8 {
		x := begin(t, own, m)
		for peer := range index / 8 {
			x.asks(100+peer, 0, 8*peer)
		}
		good := truth(own, 64, data, x.p.parts[index/8].query)
		lies := [][]api.Hash{nil, {}, good[:8], good[:9], append(slices.Clone(good), api.Hash{}), append(slices.Clone(good), good...), make([]api.Hash, 10)}
		for i := range good {
			lies = append(lies, turned(good, i, r.Intn(256)))
		}
		swapped := slices.Clone(good)
		swapped[0], swapped[1] = swapped[1], swapped[0]
		for peer, lie := range append(lies, swapped) {
			q := x.asks(peer, 0, index)
			l, e := x.accept(peer, q, lie)
			if len(l) != 0 || e != api.ErrBad {
				t.Fatalf("a lie of %d hashes: %v, %d", len(lie), l, e)
			}
			if other, ok := x.next(peer, 1); !ok || other == q {
				t.Fatalf("the liar is asked for %v, %v", other, ok)
			}
			wants(t, "Drop", x.drop(peer), api.OK)
		}
		q := x.asks(50, 0, index)
		l, e := x.accept(50, q, good)
		if len(l) != min(8, 20-index) || l[0] != index || e != api.OK {
			t.Fatalf("Accept = %v, %d", l, e)
		}
	}
}

// P15.5: an answer to what is out at several peers is taken from one, and stays out at the others; theirs are looked over too.
func TestSeveral(t *testing.T) {
	x, a := ten(t)
	q := x.asks(1, 0, 0)
	x.asks(2, 0, 8)
	for peer := 3; peer < 7; peer++ {
		x.asks(peer, 0, 0)
	}
	good := truth(own, 128, a, q)
	_, e := x.accept(3, q, turned(good, 0, 0))
	wants(t, "Accept of a lie", e, api.ErrBad)
	x.asks(1, 0, -1)
	x.asks(4, 0, -1)
	l, e := x.accept(4, q, good)
	if len(l) != 8 || e != api.OK {
		t.Fatalf("Accept = %v, %d", l, e)
	}
	x.asks(1, 0, -1)
	l, e = x.accept(1, q, good)
	if len(l) != 0 || e != api.OK {
		t.Fatalf("Accept of what is known = %v, %d", l, e)
	}
	_, e = x.accept(5, q, good[1:])
	wants(t, "Accept of a lie about what is known", e, api.ErrBad)
	wants(t, "Reject of what is known", x.reject(6, q), api.OK)
	for peer := range 7 {
		if peer != 2 {
			x.asks(peer, 1, 8)
		}
	}
}

// P15.5: files with one root and one number of pieces learn together; one with the root and another number of pieces learns for itself.
func TestTwins(t *testing.T) {
	r := rand.New(rand.NewSource(9))
	a, b := content(r, 64*10), content(r, 64*3)
	m := bare(own, 64, a, b, a, a, b, a)
	m.Files[3].Len = 64 * 9      // as many chunks with the same queries, and a piece less
	m.Files[5].Len = 64*10 - 63  // as many pieces
	m.Files[1].Root[3] ^= 1      // no file has this root
	m.Files[4].Root = api.Hash{} // nor this one, in all likelihood
	x := begin(t, own, m)
	q := x.asks(0, 0, 0)
	if again := x.asks(1, 0, 8); again.Root != q.Root {
		t.Fatal("the second chunk is the first file's")
	}
	x.asks(2, 0, 0)                     // of the file 1
	for i, index := range []int{0, 8} { // of the file 2
		if other := x.asks(3+i, 0, index); other.Root != q.Root {
			t.Fatal("the chunks of the file 2 have the same queries")
		}
	}
	good := truth(own, 64, a, q)
	l, e := x.accept(0, q, good)
	if want := []int{0, 1, 2, 3, 4, 5, 6, 7, 13, 14, 15, 16, 17, 18, 19, 20, 35, 36, 37, 38, 39, 40, 41, 42}; !slices.Equal(l, want) || e != api.OK {
		t.Fatalf("Accept = %v, %d; want %v", l, e, want)
	}
	wants(t, "Drop", x.drop(0), api.OK)
	if other := x.asks(0, 0, 0); other != q {
		t.Fatalf("the file with a piece less is asked for %v", other)
	}
	l, e = x.accept(0, q, good)
	if want := []int{23, 24, 25, 26, 27, 28, 29, 30}; !slices.Equal(l, want) || e != api.OK {
		t.Fatalf("Accept = %v, %d; want %v", l, e, want)
	}
	last := q
	last.Index = 8
	l, e = x.accept(1, last, truth(own, 64, a, last))
	if want := []int{8, 9, 21, 22, 43, 44}; !slices.Equal(l, want) || e != api.OK {
		t.Fatalf("Accept = %v, %d; want %v", l, e, want)
	}
}

// P15.5, P15.6: barred is a peer from one chunk, not from that of another file with the same query.
func TestBarredFromOne(t *testing.T) {
	r := rand.New(rand.NewSource(10))
	a := content(r, 64*4)
	for _, refuse := range []bool{true, false} {
		x := begin(t, own, bare(own, 64, a, a))
		bar := func(q api.Query) {
			if refuse {
				wants(t, "Reject", x.reject(1, q), api.OK)
			} else {
				_, e := x.accept(1, q, nil)
				wants(t, "Accept", e, api.ErrBad)
			}
		}
		q := x.asks(1, 0, 0)
		bar(q)
		if other := x.asks(1, 0, 0); other != q {
			t.Fatalf("Next = %v, want %v", other, q)
		}
		bar(q)
		x.asks(1, 0, -1)
		x.asks(2, 0, 0)
		l, e := x.accept(2, q, truth(own, 64, a, q))
		if !slices.Equal(l, []int{0, 1, 2, 3, 4, 5, 6, 7}) || e != api.OK {
			t.Fatalf("Accept = %v, %d", l, e)
		}
	}
}

// P15.6: a refusal bars from the chunk, whoever else has it out, and nobody else.
func TestReject(t *testing.T) {
	x, _ := ten(t)
	q := x.asks(1, 0, 0)
	p := x.asks(2, 0, 8)
	x.asks(3, 0, 0)
	wants(t, "Reject", x.reject(1, q), api.OK)
	x.asks(3, 0, -1) // out there yet
	x.asks(1, 0, 8)
	wants(t, "Reject", x.reject(1, p), api.OK)
	x.asks(1, 0, -1)
	wants(t, "Reject", x.reject(2, p), api.OK)
	x.asks(2, 0, 0)
	wants(t, "Reject", x.reject(2, p), api.ErrUnasked)
	x.asks(4, 0, 8)
	x.asks(5, 0, 0)
}
