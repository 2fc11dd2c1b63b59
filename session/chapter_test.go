package session_test

import (
	"bytes"
	"crypto/sha256"
	"slices"
	"testing"

	"torrent/api"
	"torrent/store"
)

// abc is the torrent of the document's examples.
func abc(t *testing.T) *torrent {
	t.Helper()
	return whole(t, 64, []byte("abc"))
}

// greeting is what a peer says that has the one piece.
func (x *torrent) greeting() []byte {
	return slices.Concat(x.hello(), []byte{0, 0, 0, 2, 5, 128, 0, 0, 0, 1, 1})
}

// bytesTo are acts that let bytes go to a peer.
func bytesTo(peer int, texts ...[]byte) []api.Act {
	var l []api.Act
	for _, b := range texts {
		l = append(l, api.Act{Kind: api.ActSend, Peer: peer, Data: b})
	}
	return l
}

var (
	weWant = []byte{0, 0, 0, 1, 2}
	weIdle = []byte{0, 0, 0, 1, 3}
	weAsk  = []byte{0, 0, 0, 13, 6, 0, 0, 0, 0, 0, 0, 0, 0, 0, 0, 0, 3}
	weHave = []byte{0, 0, 0, 5, 4, 0, 0, 0, 0}
)

// The document's example 1.
func TestEmptyOfTheDocument(t *testing.T) {
	x := whole(t, 64, nil)
	if string(x.text) != "d4:infod9:file treed1:ad0:d6:lengthi0eeee12:meta versioni2e4:name1:t12:piece lengthi64ee12:piece layersdee" {
		t.Errorf("the text is %q", x.text)
	}
	s, found := x.start(t, x.disk(t))
	acts(t, "start", found, gotFile(0))
	if len(s.Have()) != 0 {
		t.Errorf("Have = %v", s.Have())
	}
}

// The document's example 2.
func TestSectorsOfTheDocument(t *testing.T) {
	x := abc(t)
	if n, _ := store.Need(own, x.list); n != 6 || !bytes.Contains(x.text, []byte("d6:lengthi3e11:pieces root32:\xba\x78\x16\xbf")) {
		t.Errorf("%d sectors, %q", n, x.text)
	}
	x.start(t, x.disk(t))
}

// The document's example 3.
func TestBlockOfTheDocument(t *testing.T) {
	x := abc(t)
	w := x.begin(t)
	if l := w.join(1); len(l) != 1 || l[0].Kind != api.ActSend || len(l[0].Data) != 68 {
		t.Fatalf("Join = %v", l)
	}
	acts(t, "the greeting", w.bytes(1, x.greeting()), bytesTo(1, weWant, weAsk))
	acts(t, "the block", w.says(1, x.block(0, 0)), gotPiece(0, 0), bytesTo(1, weHave), gotFile(0), bytesTo(1, weIdle))
}

// The document's example 4.
func TestLieOfTheDocument(t *testing.T) {
	x := abc(t)
	w := x.begin(t)
	w.join(1)
	w.bytes(1, x.greeting())
	acts(t, "the lie", w.says(1, api.Msg{Kind: api.MsgPiece, Data: []byte("abd")}), failed(0, 0), ban(1))
	acts(t, "again", w.join(1), drop(1, api.ErrBanned))
}

// The document's example 5.
func TestSlowOfTheDocument(t *testing.T) {
	x := abc(t)
	w := x.begin(t)
	w.join(1)
	w.bytes(1, x.greeting())
	cancel := []byte{0, 0, 0, 13, 8, 0, 0, 0, 0, 0, 0, 0, 0, 0, 0, 0, 3}
	for i := 1; i <= 24; i++ {
		var want []api.Act
		if i == 8 || i == 16 {
			want = bytesTo(1, cancel, []byte{0, 0, 0, 0}, weAsk)
		}
		if i == 24 {
			want = append(bytesTo(1, cancel), drop(1, api.ErrSlow)...)
		}
		acts(t, "Tick", w.tick(), want)
	}
}

// The document's example 6.
func TestFrameOfTheDocument(t *testing.T) {
	x := abc(t)
	w := x.begin(t)
	w.meet(nil, 2)
	w.join(1)
	w.bytes(1, x.greeting())
	acts(t, "the frame", w.bytes(1, []byte{0, 0, 128, 1}), drop(1, api.ErrFrame))
	if p := w.s.Peers(); !slices.Equal(p, []int{2}) {
		t.Errorf("Peers = %v", p)
	}
}

// The document's example 7.
func TestCrashOfTheDocument(t *testing.T) {
	x := abc(t)
	for _, c := range []struct {
		sync, fuse bool
		want       [][]api.Act
	}{
		{false, false, nil},
		{true, false, [][]api.Act{gotPiece(0, 0), gotFile(0)}},
		{true, true, nil},
	} {
		d := x.disk(t)
		s, _ := x.start(t, d)
		s.Join(1)
		s.Bytes(1, x.greeting())
		s.Bytes(1, wire(x.block(0, 0)))
		if c.fuse {
			d.Fuse(0)
		}
		if c.sync {
			wants(t, "Sync", s.Sync(), api.OK)
		}
		d.Crash(make([]bool, len(d.Pending())), -1, 0)
		_, found := x.start(t, d)
		acts(t, "the new start", found, c.want...)
	}
}

// The document's example 8.
func TestTwoBlocksOfTheDocument(t *testing.T) {
	w := shared(t)
	if p := w.s.Peers(); !slices.Equal(p, []int{1, 2}) {
		t.Fatalf("Peers = %v", p)
	}
	l := w.says(2, w.block(0, 0), w.block(0, 1))
	if !slices.ContainsFunc(l, func(a api.Act) bool { return a.Kind == api.ActFile }) {
		t.Errorf("the file is not there: %v", l)
	}
	x := whole(t, 128, some(128))
	w = x.begin(t)
	w.seeds(1, 2)
	l = w.says(1, wrong(x.block(0, 0)), wrong(x.block(0, 1)))
	acts(t, "both of one", slices.DeleteFunc(l, func(a api.Act) bool { return a.Kind == api.ActSend }), failed(0, 0), ban(1))
	if p := w.s.Peers(); !slices.Equal(p, []int{2}) {
		t.Errorf("Peers = %v", p)
	}
}

// The document's example 9: a session that has all, and one that knows the roots alone.
func TestSharingOfTheDocument(t *testing.T) {
	x := bare(t, 64, []byte("abc"), nil, some(400))
	v := whole(t, 64, x.files...)
	n := newNet(t, x, x.disk(t))
	n.seed(1, v, honest)
	n.run(40)
	q := api.Query{Root: x.m.Files[2].Root, Base: 0, Index: 0, Length: 8, Proofs: 2}
	l := n.s.Answers()
	if len(l) != 1 || l[0].Query != q || len(l[0].Hashes) != 8 || n.asked != 8 {
		t.Errorf("%d blocks were asked for; Answers = %v", n.asked, l)
	}
	n.done()
}

// The document's example 10: at a width of one byte other bytes do as well.
func TestOtherBytesOfTheDocument(t *testing.T) {
	x, ok := build(api.Scale{Block: 64, Width: 1}, 64, all, []byte("abc"))
	if !ok {
		t.Fatal("no torrent")
	}
	other := []byte("abd")
	for sha256.Sum256(other)[0] != sha256.Sum256([]byte("abc"))[0] {
		other[2]++
	}
	w := x.begin(t)
	w.join(1)
	w.bytes(1, x.greeting())
	acts(t, "the block", w.says(1, api.Msg{Kind: api.MsgPiece, Data: other}), gotPiece(0, 0), bytesTo(1, weHave), gotFile(0), bytesTo(1, weIdle))
	if b, e := w.s.File(0); e != api.OK || !bytes.Equal(b, other) {
		t.Errorf("File = %v, %d", b, e)
	}
}
