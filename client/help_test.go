package client_test

import (
	"bytes"
	"crypto/sha256"
	"math/rand"
	"slices"
	"strconv"
	"testing"

	"torrent/api"
	"torrent/client"
	"torrent/create"
	"torrent/digest"
	"torrent/disk"
	"torrent/frame"
	"torrent/magnet"
	"torrent/message"
	"torrent/meta"
	"torrent/session"
	"torrent/store"
)

var own = api.Scale{Block: 64, Width: 32}

// us is our own number in all tests.
var us = [20]byte{1, 2, 3}

// torrent is a torrent with all that its files are. One that is no torrent has an info dictionary alone.
type torrent struct {
	sc     api.Scale
	m      api.Meta
	text   []byte // with all layers
	dict   []byte
	bare   []byte // without any: what is made of the dictionary
	info   api.Hash
	files  [][]byte
	pieces [][]byte
}

// build is the torrent of files a, b, .. with these contents; false, if there is none.
func build(sc api.Scale, name string, pieceLen int, files ...[]byte) (*torrent, bool) {
	var l []api.Source
	for i, b := range files {
		l = append(l, api.Source{Path: []string{string(rune('a' + i))}, Data: b})
	}
	m, e := create.Build(sc, name, pieceLen, l)
	if e != api.OK {
		return nil, false
	}
	text, e := meta.Print(sc, m)
	if e != api.OK {
		return nil, false
	}
	bald := m
	bald.Layers = nil
	bare, _ := meta.Print(sc, bald)
	x := lone(sc, bare[len("d4:info"):len(bare)-len("12:piece layersdee")])
	x.m, x.text, x.files = m, text, files
	x.pieces, _ = create.Slice(m, l)
	return x, true
}

// lone is a torrent with any info dictionary.
func lone(sc api.Scale, dict []byte) *torrent {
	info, _ := digest.Hash(sc, dict)
	return &torrent{sc: sc, dict: dict, bare: slices.Concat([]byte("d4:info"), dict, []byte("12:piece layersdee")), info: info}
}

// made is a torrent of pieces of one block.
func made(t *testing.T, name string, files ...[]byte) *torrent {
	t.Helper()
	x, ok := build(own, name, 64, files...)
	if !ok {
		t.Fatal("no torrent")
	}
	return x
}

// one is a torrent of three pieces in two files, and an empty file; its dictionary has four parts.
func one(t *testing.T) *torrent {
	t.Helper()
	return made(t, "one", some(100), some(20), nil)
}

// disk is an empty disk with just the room for the torrent.
func (x *torrent) disk(t *testing.T) *disk.Disk {
	t.Helper()
	list, e := create.List(x.sc, x.m)
	if e != api.OK {
		t.Fatal("create.List:", e)
	}
	n, _ := store.Need(x.sc, list)
	return sectors(t, n)
}

func sectors(t *testing.T, n int) *disk.Disk {
	t.Helper()
	d, e := disk.New(n)
	if e != api.OK {
		t.Fatal("disk.New:", e)
	}
	return d
}

// filled is a disk on which these pieces are had, and synced.
func (x *torrent) filled(t *testing.T, pieces ...int) *disk.Disk {
	t.Helper()
	d := x.disk(t)
	list, _ := create.List(x.sc, x.m)
	s, e := store.Open(x.sc, d, x.info, list)
	if e != api.OK {
		t.Fatal("store.Open:", e)
	}
	for _, i := range pieces {
		for k, b := range slices.Collect(slices.Chunk(x.pieces[i], x.sc.Block)) {
			s.Put(i, k*x.sc.Block, b)
		}
		if e := s.Finish(i); e != api.OK {
			t.Fatal("store.Finish:", e)
		}
	}
	s.Sync()
	return d
}

// every lists all pieces.
func (x *torrent) every() []int {
	var l []int
	for i := range x.pieces {
		l = append(l, i)
	}
	return l
}

// link is a link to the torrent, by a name.
func (x *torrent) link(name string) string {
	s, e := magnet.Print(api.Link{Info: x.info, Name: name})
	if e != api.OK {
		panic(e)
	}
	return s
}

// parts are the parts of the info dictionary, by the words of chapter 23.
func (x *torrent) parts() [][]byte { return slices.Collect(slices.Chunk(x.dict, x.sc.Block)) }

// part is the sheet that brings a part.
func (x *torrent) part(i int) string { return dataText(i, len(x.dict), x.parts()[i]) }

// hello is the handshake of somebody else for the torrent, able one of somebody who takes extended messages.
func (x *torrent) hello() []byte { return x.greeted(0) }

func (x *torrent) able() []byte { return x.greeted(16) }

func (x *torrent) greeted(flags byte) []byte {
	h := api.Hello{Flags: [8]byte{5: flags}, Peer: [20]byte{9}}
	copy(h.Info[:], x.info[:])
	return frame.Greet(h)
}

// ours is our handshake.
func (x *torrent) ours() []byte {
	b := append([]byte("\x13BitTorrent protocol"), 0, 0, 0, 0, 0, 16, 0, 16)
	b = append(b, x.info[:20]...)
	return append(b, us[:]...)
}

// field is the bitfield of these pieces.
func (x *torrent) field(pieces ...int) api.Msg {
	b := make([]byte, (len(x.pieces)+7)/8)
	for _, i := range pieces {
		b[i/8] |= 128 >> (i % 8)
	}
	return api.Msg{Kind: api.MsgBitfield, Data: b}
}

// block is the message that brings a block, request the one that asks for it.
func (x *torrent) block(piece, block int) api.Msg {
	from := block * x.sc.Block
	return api.Msg{Kind: api.MsgPiece, Index: piece, Begin: from, Data: x.pieces[piece][from:min(from+x.sc.Block, len(x.pieces[piece]))]}
}

func (x *torrent) request(piece, block int) api.Msg {
	m := x.block(piece, block)
	return api.Msg{Kind: api.MsgRequest, Index: piece, Begin: m.Begin, Length: len(m.Data)}
}

// wrong is the message with its block's first byte turned.
func wrong(m api.Msg) api.Msg {
	m.Data = bytes.Clone(m.Data)
	m.Data[0] ^= 255
	return m
}

// plainly is a message that is its kind alone.
func plainly(kind int) api.Msg { return api.Msg{Kind: kind} }

// wire is the bytes of messages.
func wire(ms ...api.Msg) []byte {
	b, e := message.Wire(ms)
	if e != api.OK {
		panic(e)
	}
	return b
}

// framed is a frame, by the words of chapter 10.
func framed(body []byte) []byte {
	n := len(body)
	return append([]byte{byte(n >> 24), byte(n >> 16), byte(n >> 8), byte(n)}, body...)
}

// ext is the frame of an extended message, by the words of chapter 21.
func ext(number int, payload string) []byte {
	return framed(append([]byte{20, byte(number)}, payload...))
}

func num(n int) string { return strconv.Itoa(n) }

// wishText is a wish for parts under a number, with a size; 0: none is told.
func wishText(number, size int) string {
	s := "d1:md11:ut_metadatai" + num(number) + "ee"
	if size != 0 {
		s += "13:metadata_sizei" + num(size) + "e"
	}
	return s + "e"
}

// ourWish is what we say, with the size of the info dictionary; 0: it isn't there.
func ourWish(size int) []byte {
	s := "d1:md11:ut_metadatai1ee"
	if size != 0 {
		s += "13:metadata_sizei" + num(size) + "e"
	}
	return ext(0, s+"4:reqqi16e1:v7:torrente")
}

func askText(part int) string { return "d8:msg_typei0e5:piecei" + num(part) + "ee" }

func noText(part int) string { return "d8:msg_typei2e5:piecei" + num(part) + "ee" }

func dataText(part, total int, b []byte) string {
	return "d8:msg_typei1e5:piecei" + num(part) + "e10:total_sizei" + num(total) + "ee" + string(b)
}

// The acts that tests want.

func sends(peer int, data ...[]byte) []api.Act {
	var l []api.Act
	for _, b := range data {
		l = append(l, api.Act{Kind: api.ActSend, Peer: peer, Data: b})
	}
	return l
}

func drops(why api.Errno, peers ...int) []api.Act {
	var l []api.Act
	for _, i := range peers {
		l = append(l, api.Act{Kind: api.ActDrop, Peer: i, Why: why})
	}
	return l
}

func bans(why api.Errno, peer int) []api.Act {
	return []api.Act{{Kind: api.ActBan, Peer: peer, Why: why}}
}

func sameAct(a, b api.Act) bool {
	return a.Kind == b.Kind && a.Peer == b.Peer && a.Piece == b.Piece && a.File == b.File && a.Why == b.Why && bytes.Equal(a.Data, b.Data)
}

func sameActs(a, b []api.Act) bool { return slices.EqualFunc(a, b, sameAct) }

// acts fails the test unless these acts came, in their order.
func acts(t *testing.T, what string, got []api.Act, want ...[]api.Act) {
	t.Helper()
	if w := slices.Concat(want...); !sameActs(got, w) {
		t.Fatalf("%s: acts\n%s\nwanted\n%s", what, shown(got), shown(w))
	}
}

func shown(l []api.Act) string {
	s := ""
	for _, a := range l {
		s += " kind " + num(a.Kind) + " peer " + num(a.Peer) + " piece " + num(a.Piece) + " file " + num(a.File) + " why " + num(int(a.Why)) + " " + strconv.Quote(string(a.Data)) + "\n"
	}
	return s
}

func wants(t *testing.T, what string, e, want api.Errno) {
	t.Helper()
	if e != want {
		t.Fatalf("%s = %d, want %d", what, e, want)
	}
}

func content(r *rand.Rand, n int) []byte {
	b := make([]byte, n)
	r.Read(b)
	return b
}

// some is content that hangs on its length alone.
func some(n int) []byte { return content(rand.New(rand.NewSource(int64(n)+1)), n) }

func none(t *testing.T, sc api.Scale) *client.Client {
	t.Helper()
	c, e := client.New(sc, us)
	if c == nil || e != api.OK {
		t.Fatalf("New = %v, %d", c, e)
	}
	return c
}

// single is a client with one torrent, number 0.
type single struct {
	*torrent
	t *testing.T
	c *client.Client
	d *disk.Disk
}

// byText is a client that has the torrent by its metainfo, on a disk; what it found there.
func (x *torrent) byText(t *testing.T, d *disk.Disk) (*single, []api.Act) {
	t.Helper()
	s := &single{torrent: x, t: t, c: none(t, x.sc), d: d}
	n, l, e := s.c.AddText(x.text, d)
	if n != 0 || e != api.OK {
		t.Fatalf("AddText = %d, %d", n, e)
	}
	return s, l
}

// running is byText with nothing on the disk.
func (x *torrent) running(t *testing.T) *single {
	t.Helper()
	s, l := x.byText(t, x.disk(t))
	for _, a := range l {
		if a.Kind != api.ActFile {
			t.Fatal("something is there already")
		}
	}
	return s
}

// byLink is a client that has the torrent by a link, on a disk.
func (x *torrent) byLink(t *testing.T, d *disk.Disk) *single {
	t.Helper()
	s := &single{torrent: x, t: t, c: none(t, x.sc), d: d}
	n, e := s.c.AddLink(x.link("by link"), d)
	if n != 0 || e != api.OK {
		t.Fatalf("AddLink = %d, %d", n, e)
	}
	return s
}

// waiting is byLink with a disk for all of it.
func (x *torrent) waiting(t *testing.T) *single {
	t.Helper()
	return x.byLink(t, x.disk(t))
}

func (s *single) join(peer int) []api.Act { return s.c.Join(0, peer) }

func (s *single) leave(peer int) []api.Act { return s.c.Leave(0, peer) }

func (s *single) says(peer int, b ...[]byte) []api.Act {
	return s.c.Bytes(0, peer, slices.Concat(b...))
}

func (s *single) ticks(n int) []api.Act {
	var l []api.Act
	for range n {
		l = append(l, s.c.Tick(0)...)
	}
	return l
}

// meets lets a peer join and say its handshake.
func (s *single) meets(peer int) {
	s.t.Helper()
	acts(s.t, "Join", s.join(peer), sends(peer, s.ours()))
	acts(s.t, "a handshake", s.says(peer, s.able()), sends(peer, ourWish(s.size())))
}

// size is what we say of the info dictionary.
func (s *single) size() int {
	if s.state().Phase == api.PhaseRunning {
		return len(s.dict)
	}
	return 0
}

// offers lets a peer meet a waiting torrent and tell that it has the info dictionary, under the number 3: the part 0 is asked for.
func (s *single) offers(peer int) {
	s.t.Helper()
	s.meets(peer)
	acts(s.t, "a wish", s.says(peer, ext(0, wishText(3, len(s.dict)))), sends(peer, ext(3, askText(0))))
}

// given lets a peer that has offered give all parts but the last.
func (s *single) given(peer int) {
	s.t.Helper()
	for i := range len(s.parts()) - 1 {
		acts(s.t, "a part", s.says(peer, ext(1, s.part(i))), sends(peer, ext(3, askText(i+1))))
	}
}

// last is the frame that brings the last part.
func (s *single) last() []byte { return ext(1, s.part(len(s.parts())-1)) }

func (s *single) state() api.Status {
	s.t.Helper()
	x, e := s.c.State(0)
	wants(s.t, "State", e, api.OK)
	return x
}

// peers fails the test unless these peers are connected.
func (s *single) peers(what string, want ...int) {
	s.t.Helper()
	if l := s.state().Peers; !slices.Equal(l, want) {
		s.t.Fatalf("%s: Peers = %v, want %v", what, l, want)
	}
}

func (s *single) phase(what string, want int, why api.Errno) {
	s.t.Helper()
	if x := s.state(); x.Phase != want || x.Why != why {
		s.t.Fatalf("%s: Phase %d, Why %d, want %d, %d", what, x.Phase, x.Why, want, why)
	}
}

// session is a session of the torrent on a copy of a disk, to be held against what a client tells.
func (x *torrent) session(t *testing.T, text []byte, d *disk.Disk) (*session.Session, []api.Act) {
	t.Helper()
	s, l, e := session.New(x.sc, text, x.info, us, d.Copy())
	if s == nil || e != api.OK {
		t.Fatalf("session.New = %v, %d", s, e)
	}
	return s, l
}

// sum is the digest at a scale, by the library of Go.
func sum(sc api.Scale, b []byte) api.Hash {
	h := api.Hash(sha256.Sum256(b))
	clear(h[sc.Width:])
	return h
}
