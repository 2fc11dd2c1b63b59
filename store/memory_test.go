package store_test

import (
	"bytes"
	"math/rand"
	"slices"
	"testing"

	"torrent/api"
	"torrent/disk"
	"torrent/store"
)

// spoil writes over a list and its spare room.
func spoil(b []byte) {
	b = b[:cap(b)]
	for i := range b {
		b[i] ^= 255
	}
}

// P0.4, P14.14: data and lists of pieces that are handed in are not changed, their spare room neither, and not kept.
func TestArguments(t *testing.T) {
	r := rand.New(rand.NewSource(13))
	for range 50 {
		ps, data := many(r, own, 3)
		given := append(slices.Clone(ps), api.Piece{Len: 7})
		mark := torrent
		x := begin(t, own, made(t, need(ps)), ps)
		s, e := store.Open(own, x.d, mark, given[:3])
		wants(t, "Open", e, api.OK)
		wants(t, "Need", func() api.Errno { _, e := store.Need(own, given[:3]); return e }(), api.OK)
		if x.s = s; !slices.Equal(given, append(slices.Clone(ps), api.Piece{Len: 7})) || mark != torrent {
			t.Fatal("a list of pieces has changed")
		}
		clear(given)
		x.look()
		for i := range ps {
			for at := 0; at < len(data[i]); at += 64 {
				b := append(bytes.Clone(data[i]), content(r, 70)...)
				was := bytes.Clone(b)
				x.put(i, at, b[at:min(len(data[i]), at+64)])
				if !bytes.Equal(b, was) {
					t.Fatal("what was handed in has changed")
				}
				spoil(b)
				x.look()
			}
			wants(t, "Finish", x.finish(i), api.OK)
		}
	}
}

// P0.5, P14.14: answers that are written over and appended to are seen in no store, on no disk and in no other answer.
func TestAnswers(t *testing.T) {
	r := rand.New(rand.NewSource(14))
	for range 60 {
		ps, data := many(r, own, 1+r.Intn(4))
		x := begin(t, own, made(t, need(ps)), ps)
		for range 40 {
			x.some(r, ps, data)
			answers := func() [][]byte {
				l := [][]byte{x.s.Have()}
				for i := range ps {
					b, _ := x.s.Blocks(i)
					c, _ := x.s.Read(i, r.Intn(ps[i].Len), 0)
					d, _ := x.s.Read(i, 0, ps[i].Len)
					l = append(l, b, c, d)
				}
				return l
			}
			one, other := answers(), answers()
			for i, b := range one {
				was := bytes.Clone(other[i])
				spoil(b)
				_ = append(b, 1, 2, 3)
				if !bytes.Equal(other[i], was) {
					t.Fatal("an answer was written over, and another one has changed")
				}
			}
			x.look()
		}
	}
}

// P0.3: stores on two disks have nothing to do with each other.
func TestApart(t *testing.T) {
	r := rand.New(rand.NewSource(15))
	ps, data := many(r, own, 3)
	a, b := begin(t, own, made(t, need(ps)), ps), begin(t, own, made(t, need(ps)), ps)
	for range 300 {
		a.some(r, ps, data)
		b.look()
		b.some(r, ps, data)
		a.look()
	}
}

// P0.6, P14.14: a store that is nil, and one that Open has not made.
func TestNil(t *testing.T) {
	for _, s := range []*store.Store{nil, new(store.Store)} {
		for _, i := range []int{-1, 0, 1} {
			wants(t, "Put", s.Put(i, 0, make([]byte, 64)), api.ErrNil)
			wants(t, "Finish", s.Finish(i), api.ErrNil)
			if b, e := s.Blocks(i); len(b) != 0 || e != api.ErrNil {
				t.Errorf("Blocks = %v, %d", b, e)
			}
			if b, e := s.Read(i, 0, 0); len(b) != 0 || e != api.ErrNil {
				t.Errorf("Read = %v, %d", b, e)
			}
			if had, e := s.Learn(i, api.Hash{}); had || e != api.ErrNil {
				t.Errorf("Learn = %v, %d", had, e)
			}
		}
		wants(t, "Sync", s.Sync(), api.ErrNil)
		if n, e := s.Recheck(); n != 0 || e != api.ErrNil {
			t.Errorf("Recheck = %d, %d", n, e)
		}
		if b := s.Have(); len(b) != 0 {
			t.Errorf("Have = %v", b)
		}
	}
	ps, _, _ := two()
	if s, e := store.Open(own, new(disk.Disk), torrent, ps); s != nil || e != api.ErrStoreDisk {
		t.Errorf("on a disk without sectors: Open = %v, %d", s, e)
	}
}

// P0.1: a store whose disk has lost its sectors refuses, and does not panic.
func TestShrunk(t *testing.T) {
	ps, _, r1 := two()
	x := filled(t)
	*x.d = disk.Disk{}
	wants(t, "Put", x.s.Put(1, 0, r1), api.ErrSector)
	wants(t, "Finish", x.s.Finish(1), api.ErrStoreLack)
	if b, e := x.s.Read(0, 0, 1); len(b) != 0 || e != api.ErrSector {
		t.Errorf("Read = %v, %d", b, e)
	}
	if n, e := x.s.Recheck(); n != 0 || e != api.OK {
		t.Errorf("Recheck = %d, %d", n, e)
	}
	if had, e := x.s.Learn(0, ps[0].Hash); !had || e != api.OK {
		t.Errorf("Learn = %v, %d", had, e)
	}
	if b := x.s.Have(); !bytes.Equal(b, []byte{128}) {
		t.Errorf("Have = %v", b)
	}
}
