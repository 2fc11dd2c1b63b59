package session_test

import (
	"bytes"
	"slices"
	"testing"

	"torrent/api"
)

// P19.7: blocks are laid on the disk as they come, and the piece is had with the last one, whatever their order.
func TestPieceOfBlocks(t *testing.T) {
	x := whole(t, 256, some(200))
	for _, order := range [][]int{{0, 1, 2, 3}, {3, 2, 1, 0}, {2, 0, 3, 1}} {
		w := x.begin(t)
		w.seeds(1)
		for _, k := range order[:3] {
			acts(t, "a block", w.says(1, x.block(0, k)))
			if len(w.d.Pending()) == 0 || w.s.Have()[0] != 0 {
				t.Fatal("nothing is written, or the piece is had")
			}
		}
		acts(t, "the last one", w.says(1, x.block(0, order[3])), gotPiece(0, 0), said(1, have(0)), gotFile(0), said(1, plainly(api.MsgIdle)))
		acts(t, "one behind it", w.says(1, x.block(0, order[3])))
		if b, e := w.s.File(0); e != api.OK || !bytes.Equal(b, x.files[0]) {
			t.Errorf("File = %v, %d", b, e)
		}
	}
}

// P19.7: the others that were asked for a block are told that it is there, rising; then come those who wait for the piece.
func TestCancels(t *testing.T) {
	x := whole(t, 128, some(100))
	w := x.begin(t)
	w.seeds(9, 2, 5)
	acts(t, "the first block", w.says(5, x.block(0, 0)), said(2, x.cancel(0, 0)), said(9, x.cancel(0, 0)))
	acts(t, "taken back", w.says(2, wrong(x.block(0, 0))))
	acts(t, "the second block", w.says(9, x.block(0, 1)),
		said(2, x.cancel(0, 1)), said(5, x.cancel(0, 1)),
		gotPiece(0, 0), said(2, have(0)), said(5, have(0)), said(9, have(0)), gotFile(0),
		said(2, plainly(api.MsgIdle)), said(5, plainly(api.MsgIdle)), said(9, plainly(api.MsgIdle)))
}

// P19.7: a have goes to each shaken connection, to no other one.
func TestHaves(t *testing.T) {
	x := whole(t, 64, some(100))
	w := x.begin(t)
	w.join(0)
	w.meet(nil, 4)
	w.join(7)
	w.seeds(5)
	w.bytes(7, x.hello()[:67])
	acts(t, "the block", w.says(5, x.block(0, 0)), gotPiece(0, 0), said(4, have(0)), said(5, have(0)))
	acts(t, "the last byte of a handshake", w.bytes(7, x.hello()[67:]), said(7, x.field(0)))
	acts(t, "the other block", w.says(5, x.block(1, 0)),
		gotPiece(1, 0), said(4, have(1)), said(5, have(1)), said(7, have(1)), gotFile(0), said(5, plainly(api.MsgIdle)))
}

// P19.7: a file is complete with its last piece, and only that file.
func TestFiles(t *testing.T) {
	x := whole(t, 64, some(100), some(3), some(4), some(70))
	w := x.begin(t)
	w.seeds(1)
	for _, c := range []struct {
		piece int
		want  [][]api.Act
	}{
		{1, [][]api.Act{gotPiece(1, 0), said(1, have(1), x.request(4, 0))}},
		{2, [][]api.Act{gotPiece(2, 1), said(1, have(2)), gotFile(1), said(1, x.request(5, 0))}},
		{0, [][]api.Act{gotPiece(0, 0), said(1, have(0)), gotFile(0)}},
		{5, [][]api.Act{gotPiece(5, 3), said(1, have(5))}},
		{4, [][]api.Act{gotPiece(4, 3), said(1, have(4)), gotFile(3)}},
		{3, [][]api.Act{gotPiece(3, 2), said(1, have(3)), gotFile(2), said(1, plainly(api.MsgIdle))}},
	} {
		acts(t, "a piece", w.says(1, x.block(c.piece, 0)), c.want...)
	}
}

// P19.7: who alone gave a wrong piece is banned, whatever it says next; what it was asked for goes to others.
func TestLiar(t *testing.T) {
	x := whole(t, 128, some(256))
	w := x.begin(t)
	w.seeds(1) // is asked for all four blocks
	w.seeds(2) // and so is this one
	acts(t, "the first block", w.says(1, wrong(x.block(0, 0))), said(2, x.cancel(0, 0)))
	acts(t, "the second one", w.says(1, x.block(0, 1), x.block(1, 0)), said(2, x.cancel(0, 1)), failed(0, 0), ban(1), said(2, x.request(0, 0), x.request(0, 1)))
	acts(t, "nobody", w.says(1, x.block(1, 0)))
	acts(t, "again", w.join(1), drop(1, api.ErrBanned))
	acts(t, "the truth", w.says(2, x.block(0, 0), x.block(0, 1)), gotPiece(0, 0), said(2, have(0)))
	acts(t, "the rest", w.says(2, x.block(1, 0), x.block(1, 1)), gotPiece(1, 0), said(2, have(1)), gotFile(0), said(2, plainly(api.MsgIdle)))
}

// shared is a session with a piece of two blocks that was wrong, one block by each of two peers: it is fetched alone.
func shared(t *testing.T) *watch {
	t.Helper()
	x := whole(t, 128, some(128))
	w := x.begin(t)
	w.seeds(1, 2)
	acts(t, "a wrong block", w.says(1, wrong(x.block(0, 0))), said(2, x.cancel(0, 0)))
	acts(t, "a right one", w.says(2, x.block(0, 1)), said(1, x.cancel(0, 1)), failed(0, 0),
		said(1, x.request(0, 0), x.request(0, 1)), said(2, x.request(0, 0), x.request(0, 1)))
	return w
}

// P19.7: a piece that is fetched alone is kept in memory for each peer, and goes to the disk when it is whole by one.
func TestAlone(t *testing.T) {
	w := shared(t)
	was := w.d.Image()
	acts(t, "a block of the one", w.says(1, wrong(w.block(0, 1))))
	acts(t, "a block of the other", w.says(2, w.block(0, 1)))
	if !bytes.Equal(w.d.Image(), was) {
		t.Error("the disk was written")
	}
	acts(t, "the other's last", w.says(2, w.block(0, 0)), said(1, w.cancel(0, 0)), gotPiece(0, 0), said(1, have(0)), said(2, have(0)), gotFile(0),
		said(1, plainly(api.MsgIdle)), said(2, plainly(api.MsgIdle)))
	acts(t, "too late", w.says(1, w.block(0, 0)))
	if b, e := w.s.File(0); e != api.OK || !bytes.Equal(b, w.files[0]) {
		t.Errorf("File = %v, %d", b, e)
	}
}

// P19.7: both blocks are taken back from who was asked for both, rising.
func TestAloneCancels(t *testing.T) {
	w := shared(t)
	acts(t, "both", w.says(2, w.block(0, 0), w.block(0, 1)), said(1, w.cancel(0, 0), w.cancel(0, 1)), gotPiece(0, 0), said(1, have(0)), said(2, have(0)), gotFile(0),
		said(1, plainly(api.MsgIdle)), said(2, plainly(api.MsgIdle)))
}

// P19.7: who gave it wrong alone is banned, and what others gave stays.
func TestAloneWrong(t *testing.T) {
	w := shared(t)
	acts(t, "a block of the other", w.says(2, w.block(0, 1)))
	acts(t, "a block of the liar", w.says(1, w.block(0, 1)))
	acts(t, "the liar's last", w.says(1, wrong(w.block(0, 0))), failed(0, 0), ban(1))
	acts(t, "the other's last", w.says(2, w.block(0, 0)), gotPiece(0, 0), said(2, have(0)), gotFile(0), said(2, plainly(api.MsgIdle)))
	if b, e := w.s.File(0); e != api.OK || !bytes.Equal(b, w.files[0]) {
		t.Errorf("File = %v, %d", b, e)
	}
}

// P19.7, P19.8: what who leaves has given of it is let go.
func TestAloneLeave(t *testing.T) {
	w := shared(t)
	acts(t, "a block", w.says(2, w.block(0, 0)))
	w.leave(2)
	w.seeds(2)
	acts(t, "the other block", w.says(2, w.block(0, 1)))
	acts(t, "the first one again", w.says(2, w.block(0, 0)), said(1, w.cancel(0, 0), w.cancel(0, 1)), gotPiece(0, 0), said(1, have(0)), said(2, have(0)), gotFile(0),
		said(1, plainly(api.MsgIdle)), said(2, plainly(api.MsgIdle)))
}

// P19.7: a piece that a choke came between is gone on with.
func TestAloneChoked(t *testing.T) {
	w := shared(t)
	acts(t, "a block", w.says(2, w.block(0, 0)))
	acts(t, "a choke", w.says(2, plainly(api.MsgChoke)))
	acts(t, "an unchoke", w.says(2, plainly(api.MsgUnchoke)), said(2, w.request(0, 1)))
	l := w.says(2, w.block(0, 1))
	if !slices.ContainsFunc(l, func(a api.Act) bool { return a.Kind == api.ActFile }) {
		t.Errorf("not had: %v", l)
	}
}

// P19.7: a piece whose first giver has left was not given by the second one alone.
func TestGiverLeft(t *testing.T) {
	x := whole(t, 128, some(128))
	w := x.begin(t)
	w.seeds(1)
	w.says(1, wrong(x.block(0, 0)))
	w.leave(1)
	w.seeds(2)
	acts(t, "the second block", w.says(2, x.block(0, 1)), failed(0, 0), said(2, x.request(0, 0), x.request(0, 1)))
	l := w.says(2, x.block(0, 0), x.block(0, 1))
	if !slices.ContainsFunc(l, func(a api.Act) bool { return a.Kind == api.ActFile }) {
		t.Errorf("not had: %v", l)
	}
}

// P19.7: what is given counts for who may ask of us: of three the one that gave goes ahead of the second.
func TestCredit(t *testing.T) {
	x := whole(t, 64, some(300))
	w := x.begin(t)
	w.seeds(1, 2, 3)
	for _, i := range []int{1, 2, 3} {
		w.says(i, plainly(api.MsgInterested))
	}
	w.says(3, x.block(1, 0)) // not asked for
	w.says(3, x.block(4, 0))
	for range 3 {
		w.tick()
	}
	if l := w.tick(); len(l) != 2 || unwired(t, l[0]).Kind != api.MsgUnchoke || l[0].Peer != 1 || unwired(t, l[1]).Kind != api.MsgUnchoke || l[1].Peer != 3 {
		t.Errorf("the choosing: %v", l)
	}
}
