package session_test

import (
	"bytes"
	"math/rand"
	"slices"
	"testing"

	"torrent/api"
	"torrent/create"
	"torrent/disk"
	"torrent/frame"
	"torrent/message"
	"torrent/meta"
	"torrent/session"
	"torrent/store"
)

var own = api.Scale{Block: 64, Width: 32}

// us is our own number in all tests.
var us = [20]byte{1, 2, 3}

// torrent is a torrent with all that its files are.
type torrent struct {
	sc     api.Scale
	m      api.Meta // as its text has it
	full   api.Meta // with all layers
	text   []byte
	info   api.Hash
	list   []api.Piece
	files  [][]byte
	pieces [][]byte
}

// build is the torrent of files a, b, .. with these contents; false, if there is none. keep says which of its layers are told.
func build(sc api.Scale, pieceLen int, keep func(int) bool, files ...[]byte) (*torrent, bool) {
	var l []api.Source
	for i, b := range files {
		l = append(l, api.Source{Path: []string{string(rune('a' + i))}, Data: b})
	}
	full, e := create.Build(sc, "t", pieceLen, l)
	if e != api.OK {
		return nil, false
	}
	x := &torrent{sc: sc, m: full, full: full, files: files}
	x.m.Layers = nil
	for i, y := range full.Layers {
		if keep(i) {
			x.m.Layers = append(x.m.Layers, y)
		}
	}
	x.pieces, _ = create.Slice(full, l)
	if x.text, e = meta.Print(sc, x.m); e != api.OK {
		return nil, false
	}
	x.info, _ = meta.Infohash(sc, x.text)
	x.list, _ = create.List(sc, x.m)
	return x, true
}

func all(int) bool  { return true }
func none(int) bool { return false }

// whole is a torrent with all its layers, bare one without any.
func whole(t *testing.T, pieceLen int, files ...[]byte) *torrent {
	t.Helper()
	x, ok := build(own, pieceLen, all, files...)
	if !ok {
		t.Fatal("no torrent")
	}
	return x
}

func bare(t *testing.T, pieceLen int, files ...[]byte) *torrent {
	t.Helper()
	x, ok := build(own, pieceLen, none, files...)
	if !ok {
		t.Fatal("no torrent")
	}
	return x
}

// disk is an empty disk with just the room for the torrent.
func (x *torrent) disk(t *testing.T) *disk.Disk {
	t.Helper()
	n, e := store.Need(x.sc, x.list)
	if e != api.OK {
		t.Fatal("store.Need:", e)
	}
	d, e := disk.New(n)
	if e != api.OK {
		t.Fatal("disk.New:", e)
	}
	return d
}

// filled is a disk on which these pieces are had, and synced.
func (x *torrent) filled(t *testing.T, pieces ...int) *disk.Disk {
	t.Helper()
	d := x.disk(t)
	known, _ := create.List(x.sc, x.full)
	s, e := store.Open(x.sc, d, x.info, known)
	if e != api.OK {
		t.Fatal("store.Open:", e)
	}
	for _, i := range pieces {
		for k, b := range slices.Collect(slices.Chunk(x.pieces[i], x.sc.Block)) {
			s.Put(i, k*x.sc.Block, b)
		}
		if e := s.Finish(i); e != api.OK {
			t.Fatal("store.Finish:", e)
		}
	}
	s.Sync()
	return d
}

// every lists all pieces.
func (x *torrent) every() []int {
	var l []int
	for i := range x.pieces {
		l = append(l, i)
	}
	return l
}

// start is a session of the torrent, and what it found.
func (x *torrent) start(t *testing.T, d *disk.Disk) (*session.Session, []api.Act) {
	t.Helper()
	s, acts, e := session.New(x.sc, x.text, x.info, us, d)
	if s == nil || e != api.OK {
		t.Fatalf("New = %v, %d", s, e)
	}
	return s, acts
}

// hello is the handshake of somebody else for the torrent.
func (x *torrent) hello() []byte {
	h := api.Hello{Peer: [20]byte{9}}
	copy(h.Info[:], x.info[:])
	return frame.Greet(h)
}

// field is the bitfield of these pieces.
func (x *torrent) field(pieces ...int) api.Msg {
	b := make([]byte, (len(x.pieces)+7)/8)
	for _, i := range pieces {
		b[i/8] |= 128 >> (i % 8)
	}
	return api.Msg{Kind: api.MsgBitfield, Data: b}
}

// block is the message that brings a block, request the one that asks for it, cancel the one that takes this back.
func (x *torrent) block(piece, block int) api.Msg {
	r := x.named(api.MsgPiece, piece, block)
	r.Data = x.pieces[piece][r.Begin : r.Begin+r.Length]
	r.Length = 0
	return r
}

func (x *torrent) request(piece, block int) api.Msg { return x.named(api.MsgRequest, piece, block) }

func (x *torrent) cancel(piece, block int) api.Msg { return x.named(api.MsgCancel, piece, block) }

func (x *torrent) named(kind, piece, block int) api.Msg {
	from := block * x.sc.Block
	return api.Msg{Kind: kind, Index: piece, Begin: from, Length: min(x.sc.Block, len(x.pieces[piece])-from)}
}

// wrong is the message with its block's first byte turned.
func wrong(m api.Msg) api.Msg {
	m.Data = bytes.Clone(m.Data)
	m.Data[0] ^= 255
	return m
}

// plainly is a message that is its kind alone, have one that tells a piece.
func plainly(kind int) api.Msg { return api.Msg{Kind: kind} }

func have(piece int) api.Msg { return api.Msg{Kind: api.MsgHave, Index: piece} }

// wire is the bytes of messages.
func wire(ms ...api.Msg) []byte {
	b, e := message.Wire(ms)
	if e != api.OK {
		panic(e)
	}
	return b
}

// said are acts that let messages go to a peer, one each.
func said(peer int, ms ...api.Msg) []api.Act {
	var l []api.Act
	for _, m := range ms {
		l = append(l, api.Act{Kind: api.ActSend, Peer: peer, Data: wire(m)})
	}
	return l
}

func drop(peer int, why api.Errno) []api.Act {
	return []api.Act{{Kind: api.ActDrop, Peer: peer, Why: why}}
}

func ban(peer int) []api.Act {
	return []api.Act{{Kind: api.ActBan, Peer: peer, Why: api.ErrLied}}
}

func gotPiece(piece, file int) []api.Act {
	return []api.Act{{Kind: api.ActPiece, Piece: piece, File: file}}
}

func gotFile(file int) []api.Act { return []api.Act{{Kind: api.ActFile, File: file}} }

func failed(piece, file int) []api.Act {
	return []api.Act{{Kind: api.ActFail, Piece: piece, File: file}}
}

func sameAct(a, b api.Act) bool {
	return a.Kind == b.Kind && a.Peer == b.Peer && a.Piece == b.Piece && a.File == b.File && a.Why == b.Why && bytes.Equal(a.Data, b.Data)
}

func sameActs(a, b []api.Act) bool { return slices.EqualFunc(a, b, sameAct) }

// acts fails the test unless these acts came, in their order.
func acts(t *testing.T, what string, got []api.Act, want ...[]api.Act) {
	t.Helper()
	if w := slices.Concat(want...); !sameActs(got, w) {
		t.Fatalf("%s: acts\n%v\nwanted\n%v", what, got, w)
	}
}

func wants(t *testing.T, what string, e, want api.Errno) {
	t.Helper()
	if e != want {
		t.Fatalf("%s = %d, want %d", what, e, want)
	}
}

func content(r *rand.Rand, n int) []byte {
	b := make([]byte, n)
	r.Read(b)
	return b
}

// some is content that hangs on its length alone.
func some(n int) []byte { return content(rand.New(rand.NewSource(int64(n)+1)), n) }
