package store_test

import (
	"bytes"
	"math"
	"math/rand"
	"slices"
	"testing"

	"torrent/api"
	"torrent/disk"
	"torrent/store"
)

// two are the pieces of the chapter's examples, and their right bytes.
func two() ([]api.Piece, []byte, []byte) {
	r := rand.New(rand.NewSource(1))
	r0, r1 := content(r, 130), content(r, 64)
	return []api.Piece{piece(own, r0, 4), piece(own, r1, 1)}, r0, r1
}

// fresh is the store of the chapter's example 2.
func fresh(t *testing.T) *watch {
	t.Helper()
	ps, _, _ := two()
	return begin(t, own, made(t, 10), ps)
}

// filled is the store behind the chapter's examples 3 and 4.
func filled(t *testing.T) *watch {
	t.Helper()
	_, r0, _ := two()
	x := fresh(t)
	for _, at := range []int{64, 128, 0} {
		wants(t, "Put", x.put(0, at, r0[at:min(130, at+64)]), api.OK)
	}
	wants(t, "Finish(0)", x.finish(0), api.OK)
	return x
}

// shows fails the test unless Have and the marks of both pieces are these.
func (x *watch) shows(have, blocks0, blocks1 byte) {
	x.t.Helper()
	b, c, d := x.s.Have(), field(x.p.marks[0]), field(x.p.marks[1])
	if b[0] != have || c[0] != blocks0 || d[0] != blocks1 {
		x.t.Fatalf("Have %v, Blocks %v and %v; want %d, %d and %d", b, c, d, have, blocks0, blocks1)
	}
}

// The chapter's example 1.
func TestNeedOfTheChapter(t *testing.T) {
	ps, _, _ := two()
	needs(t, own, ps, 10, api.OK)
	needs(t, own, nil, 4, api.OK)
	for _, p := range []api.Piece{{Len: 0, Leaves: 1}, {Len: 65, Leaves: 1}, {Len: 64, Leaves: 3}, {Len: 64, Leaves: 2048}} {
		needs(t, own, []api.Piece{p}, 0, api.ErrStorePiece)
	}
}

// The chapter's example 2.
func TestOpenOfTheChapter(t *testing.T) {
	ps, _, _ := two()
	for _, d := range []*disk.Disk{nil, made(t, 9)} {
		if s, e := store.Open(own, d, torrent, ps); s != nil || e != api.ErrStoreDisk {
			t.Errorf("Open on %d sectors = %v, %d", d.Size(), s, e)
		}
	}
	x := fresh(t)
	b, _ := x.d.Read(0)
	want := slices.Concat([]byte("torrent2"), []byte{0, 0, 0, 2, 0, 0, 0, 4}, torrent[:], b[48:56], []byte("endstore"))
	if len(x.d.Pending()) != 0 || !bytes.Equal(b, want) || !isHead(b) {
		t.Errorf("Pending %v, the head %v", x.d.Pending(), b)
	}
	x.shows(0, 0, 0)
	if b, e := x.s.Blocks(2); len(b) != 0 || e != api.ErrStorePiece {
		t.Errorf("Blocks(2) = %v, %d", b, e)
	}
}

// The chapter's example 3.
func TestPutOfTheChapter(t *testing.T) {
	_, r0, _ := two()
	x := fresh(t)
	wants(t, "Put(0, 64)", x.put(0, 64, r0[64:128]), api.OK)
	if l := x.d.Pending(); !slices.Equal(l, []int{7}) {
		t.Errorf("Pending %v", l)
	}
	x.shows(0, 64, 0)
	wants(t, "Put(0, 128)", x.put(0, 128, r0[128:]), api.OK)
	if b, _ := x.d.Read(8); !bytes.Equal(b, append(bytes.Clone(r0[128:]), make([]byte, 62)...)) {
		t.Errorf("the sector 8 reads as %v", b)
	}
	for _, c := range []struct{ piece, begin, n int }{{0, 128, 64}, {0, 32, 64}, {0, 192, 0}, {0, -64, 64}, {1, 0, 63}} {
		wants(t, "Put", x.put(c.piece, c.begin, make([]byte, c.n)), api.ErrStoreRange)
	}
	wants(t, "Put(2)", x.put(2, 0, make([]byte, 64)), api.ErrStorePiece)
	wants(t, "example 4: Finish(0)", x.finish(0), api.ErrStoreLack)
}

// The chapter's examples 4 and 6.
func TestFinishOfTheChapter(t *testing.T) {
	_, r0, _ := two()
	x := filled(t)
	if b, _ := x.d.Read(1); !bytes.Equal(b[:15], []byte{74, 0, 0, 0, 1, 0, 0, 0, 1, 1, 4, 0, 0, 0, 0}) {
		t.Errorf("the sector 1 reads as %v", b)
	}
	x.shows(128, 224, 0)
	wants(t, "Put(0, 0)", x.put(0, 0, r0[:64]), api.ErrStoreHave)
	wants(t, "Finish(0)", x.finish(0), api.ErrStoreHave)

	if b, e := x.read(0, 128, 2); e != api.OK || !bytes.Equal(b, r0[128:]) {
		t.Errorf("Read(0, 128, 2) = %v, %d", b, e)
	}
	if b, e := x.read(0, 130, 0); e != api.OK || len(b) != 0 {
		t.Errorf("Read(0, 130, 0) = %v, %d", b, e)
	}
	for _, c := range [][2]int{{129, 2}, {-1, 1}, {1, math.MaxInt}} {
		if b, e := x.read(0, c[0], c[1]); len(b) != 0 || e != api.ErrStoreRange {
			t.Errorf("Read(0, %d, %d) = %v, %d", c[0], c[1], b, e)
		}
	}
	if b, e := x.read(1, 0, 1); len(b) != 0 || e != api.ErrStoreLack {
		t.Errorf("Read(1, 0, 1) = %v, %d", b, e)
	}
}

// The chapter's example 5.
func TestWrongOfTheChapter(t *testing.T) {
	_, r0, _ := two()
	x := fresh(t)
	r0[100]++
	x.puts(0, r0)
	wants(t, "Finish(0)", x.finish(0), api.ErrStoreBad)
	x.shows(0, 0, 0)
	wants(t, "Finish(0) again", x.finish(0), api.ErrStoreLack)
}

// The chapter's example 7.
func TestLostOfTheChapter(t *testing.T) {
	ps, r0, _ := two()
	x := filled(t)
	x.crash([]bool{false, false, false, true}, -1, 0, ps)
	x.shows(0, 0, 0)
	x.puts(0, r0)
	wants(t, "Finish(0)", x.finish(0), api.OK)
	if l := x.d.Pending(); !slices.Equal(l, []int{6, 7, 8}) {
		t.Errorf("Pending %v", l)
	}
}

// The chapter's examples 8 and 9.
func TestKeptOfTheChapter(t *testing.T) {
	ps, r0, _ := two()
	x := filled(t)
	x.sync()
	x.crash(nil, -1, 0, ps)
	x.shows(128, 224, 0)

	x.open(dark(ps, 0))
	x.shows(0, 0, 0)
	wants(t, "Put(0, 0)", x.put(0, 0, r0[:64]), api.ErrStoreUnknown)
	if had, e := x.learn(0, ps[0].Hash); !had || e != api.OK {
		t.Errorf("Learn of its hash = %v, %d", had, e)
	}
	if had, e := x.learn(0, ps[1].Hash); had || e != api.ErrStoreKnown {
		t.Errorf("Learn of another = %v, %d", had, e)
	}
}

// The chapter's example 10.
func TestRecheckOfTheChapter(t *testing.T) {
	ps, r0, _ := two()
	x := fresh(t)
	x.puts(0, r0)
	x.sync()
	x.crash(nil, -1, 0, ps)
	x.shows(0, 0, 0)
	if n, e := x.recheck(); n != 1 || e != api.OK {
		t.Errorf("Recheck = %d, %d", n, e)
	}
	if x.shows(128, 224, 0); !slices.Equal(x.d.Pending(), []int{1}) {
		t.Errorf("Pending %v", x.d.Pending())
	}
}

// The chapter's examples 11 and 12.
func TestHeadOfTheChapter(t *testing.T) {
	ps, _, _ := two()
	x := fresh(t)
	if s, e := store.Open(own, x.d, api.Hash{1}, ps); s != nil || e != api.ErrStoreOther {
		t.Errorf("with another mark: Open = %v, %d", s, e)
	}
	if s, e := store.Open(own, x.d, torrent, ps[:1]); s != nil || e != api.ErrStoreOther {
		t.Errorf("with one piece less: Open = %v, %d", s, e)
	}

	x.write(0, append(x.d.Image()[:63], 0))
	x.write(9, bytes.Repeat([]byte{9}, 64))
	x.write(1, bytes.Repeat([]byte{1}, 64))
	x.open(ps)
	if b := x.d.Durable(); !isHead(b[:64]) || b[64] != 0 || b[9*64] != 9 {
		t.Errorf("it is not laid out anew: %v", b)
	}
}
