package book_test

import (
	"math/rand"
	"reflect"
	"slices"
	"testing"

	"torrent/api"
	"torrent/book"
)

// P0.4, P15.11: a metainfo that is handed in is not changed and not kept.
func TestMetaIsNotKept(t *testing.T) {
	r := rand.New(rand.NewSource(16))
	for range 30 {
		seed := r.Int63()
		x, same := some(rand.New(rand.NewSource(seed)), own, true), some(rand.New(rand.NewSource(seed)), own, true)
		w := begin(t, own, x.m)
		if !reflect.DeepEqual(x.m, same.m) {
			t.Fatal("the metainfo has changed")
		}
		w.m = same.m
		for i := range x.m.Files {
			x.m.Files[i] = api.File{Path: []string{"z"}, Len: 7}
		}
		for _, l := range x.m.Layers {
			clear(l.Hashes)
		}
		clear(x.m.Layers)
		w.look()
		for range 40 {
			others(r, same, w, r.Intn(3), 0)
		}
	}
}

// P0.4, P15.11: an answer that is handed in is not changed, its spare room neither, and not kept.
func TestHashesAreNotKept(t *testing.T) {
	r := rand.New(rand.NewSource(17))
	for range 30 {
		x := some(r, own, false)
		w := begin(t, own, x.m)
		for {
			q, ok := w.next(1, 0)
			if !ok {
				break
			}
			hashes := append(x.answer(q), api.Hash{1}, api.Hash{2})
			was := slices.Clone(hashes)
			_, e := w.accept(1, q, hashes[:len(hashes)-2])
			if wants(t, "Accept", e, api.OK); !slices.Equal(hashes, was) {
				t.Fatal("what was handed in has changed")
			}
			for i := range hashes {
				hashes[i] = api.Hash{255}
			}
			w.look()
		}
	}
}

// P0.5, P15.11: answers that are written over and appended to are seen in no book and in no other answer.
func TestAnswersAreNew(t *testing.T) {
	x, a := ten(t)
	q := x.asks(1, 0, 0)
	x.asks(2, 0, 8)
	x.asks(3, 5, 0)
	l, e := x.accept(1, q, truth(own, 128, a, q))
	wants(t, "Accept", e, api.OK)
	spoil(l, -7)
	x.asks(4, 0, 8)
	late := x.expire(8)
	spoil(late, api.Late{Peer: -7})
	x.asks(2, 9, 8)
	again := x.expire(13)
	if len(again) != 1 || again[0].Peer != 3 || again[0].Query != q {
		t.Fatalf("Expire(13) = %v", again)
	}
	spoil(again, api.Late{Peer: -8})
	if late[0].Peer != -7 {
		t.Fatal("two answers share memory")
	}
	q.Index = 8
	l, e = x.accept(2, q, truth(own, 128, a, q))
	if !slices.Equal(l, []int{8, 9}) || e != api.OK {
		t.Fatalf("Accept = %v, %d", l, e)
	}
}

// spoil writes over a list, and over its spare room.
func spoil[T any](l []T, with T) {
	l = l[:cap(l)]
	for i := range l {
		l[i] = with
	}
}

// P0.3: two books of one metainfo have nothing to do with each other.
func TestApart(t *testing.T) {
	r := rand.New(rand.NewSource(18))
	x := some(r, own, false)
	a, b := begin(t, own, x.m), begin(t, own, x.m)
	for now := range 200 {
		others(r, x, a, r.Intn(3), now)
		b.look()
		others(r, x, b, r.Intn(3), now)
		a.look()
	}
}

// P0.6, P15.11: a book that is nil, and one that New has not made.
func TestNil(t *testing.T) {
	for _, b := range []*book.Book{nil, new(book.Book)} {
		if n := b.Missing(); n != 0 {
			t.Errorf("Missing = %d", n)
		}
		for _, i := range []int{-1, 0, 100} {
			if l := b.Expire(i); len(l) != 0 {
				t.Errorf("Expire = %v", l)
			}
			if h, ok, e := b.Known(i); h != (api.Hash{}) || ok || e != api.ErrNil {
				t.Errorf("Known = %v, %v, %d", h, ok, e)
			}
			if q, ok, e := b.Next(i, i); q != (api.Query{}) || ok || e != api.ErrNil {
				t.Errorf("Next = %v, %v, %d", q, ok, e)
			}
			if l, e := b.Accept(i, api.Query{}, nil); len(l) != 0 || e != api.ErrNil {
				t.Errorf("Accept = %v, %d", l, e)
			}
			wants(t, "Reject", b.Reject(i, api.Query{}), api.ErrNil)
			wants(t, "Drop", b.Drop(i), api.ErrNil)
		}
	}
}
