package session_test

import (
	"bytes"
	"math"
	"slices"
	"testing"

	"torrent/api"
	"torrent/disk"
)

// P19.10: Files counts all files, Peers lists who is connected, rising, Have is the store's.
func TestAsking(t *testing.T) {
	x := whole(t, 64, nil, some(700), some(1))
	w := x.begin(t)
	if w.s.Files() != 3 || len(w.s.Peers()) != 0 || len(w.s.Answers()) != 0 || !bytes.Equal(w.s.Have(), []byte{0, 0}) {
		t.Errorf("%d files, %v, %v, %v", w.s.Files(), w.s.Peers(), w.s.Answers(), w.s.Have())
	}
	for _, i := range []int{9, 0, math.MaxInt, 4} {
		w.join(i)
	}
	if p := w.s.Peers(); !slices.Equal(p, []int{0, 4, 9, math.MaxInt}) {
		t.Errorf("Peers = %v", p)
	}
	w.seeds(2)
	w.says(2, x.block(3, 0))
	if h := w.s.Have(); !bytes.Equal(h, []byte{16, 0}) {
		t.Errorf("Have = %v", h)
	}
}

// P19.10: a torrent without a byte has no pieces.
func TestNoPieces(t *testing.T) {
	w, found := whole(t, 64, nil, nil).watched(t, whole(t, 64, nil, nil).disk(t))
	acts(t, "start", found, gotFile(0), gotFile(1))
	if len(w.s.Have()) != 0 || w.s.Files() != 2 {
		t.Errorf("%v, %d files", w.s.Have(), w.s.Files())
	}
	w.meet([]api.Msg{plainly(api.MsgInterested), plainly(api.MsgUnchoke)}, 1)
	acts(t, "a piece", w.says(1, have(0)), drop(1, api.ErrPeerIndex))
}

// P19.10: what was synced is there behind any crash; what was not may be lost.
func TestSync(t *testing.T) {
	x := whole(t, 64, some(128))
	w := x.begin(t)
	w.seeds(1)
	w.says(1, x.block(1, 0))
	if len(w.d.Pending()) == 0 {
		t.Fatal("nothing was written")
	}
	w.sync()
	if len(w.d.Pending()) != 0 {
		t.Fatal("not synced")
	}
	w.says(1, x.block(0, 0))
	d, _ := disk.Load(w.d.Durable())
	s, found := x.start(t, d)
	acts(t, "start", found, gotPiece(1, 0))
	if b, e := s.File(0); len(b) != 0 || e != api.ErrLeft {
		t.Errorf("File = %v, %d", b, e)
	}
}

// P19.11: files that are not there, that are not complete, and that are.
func TestFile(t *testing.T) {
	x := whole(t, 128, some(300), nil, some(5))
	w := x.begin(t)
	for _, i := range []int{-1, 3, math.MaxInt, math.MinInt} {
		if b, e := w.s.File(i); len(b) != 0 || e != api.ErrFile {
			t.Errorf("File(%d) = %v, %d", i, b, e)
		}
	}
	is := func(file int, want api.Errno) {
		t.Helper()
		b, e := w.s.File(file)
		if e != want || want != api.OK && len(b) != 0 || want == api.OK && !bytes.Equal(b, x.files[file]) {
			t.Errorf("File(%d) = %v, %d; want %d", file, b, e, want)
		}
	}
	is(0, api.ErrLeft)
	is(1, api.OK)
	is(2, api.ErrLeft)
	w.seeds(1)
	for _, b := range []api.Block{{Piece: 0, Block: 0}, {Piece: 0, Block: 1}, {Piece: 1, Block: 0}, {Piece: 1, Block: 1}, {Piece: 3}} {
		is(0, api.ErrLeft)
		w.says(1, x.block(b.Piece, b.Block))
	}
	is(2, api.OK)
	is(0, api.ErrLeft)
	w.says(1, x.block(2, 0))
	is(0, api.OK)
	is(1, api.OK)
}
