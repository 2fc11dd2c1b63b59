package engine_test

import (
	"bytes"
	"math/rand"
	"slices"
	"testing"

	"torrent/api"
	"torrent/create"
	"torrent/digest"
	"torrent/disk"
	"torrent/engine"
	"torrent/frame"
	"torrent/message"
	"torrent/meta"
)

var own = api.Scale{Block: 64, Width: 32}

// torrent is a torrent with all that it was made of.
type torrent struct {
	sc       api.Scale
	name     string
	pieceLen int
	sources  []api.Source // as they are handed in
	m        api.Meta
	text     []byte // with all layers
	info     api.Hash
	files    [][]byte // in the order of the metainfo
	pieces   [][]byte
}

// build is the torrent of some files; false, if there is none.
func build(sc api.Scale, pieceLen int, sources ...api.Source) (*torrent, bool) {
	x := &torrent{sc: sc, name: "t", pieceLen: pieceLen, sources: sources}
	var e api.Errno
	if x.m, e = create.Build(sc, x.name, pieceLen, sources); e != api.OK {
		return nil, false
	}
	x.text, _ = meta.Print(sc, x.m)
	x.info, _ = meta.Infohash(sc, x.text)
	x.pieces, _ = create.Slice(x.m, sources)
	sorted := slices.SortedFunc(slices.Values(sources), func(a, b api.Source) int { return slices.Compare(a.Path, b.Path) })
	for _, s := range sorted {
		x.files = append(x.files, s.Data)
	}
	return x, true
}

// source is a file at the top, with its bytes.
func source(name string, data []byte) api.Source {
	return api.Source{Path: []string{name}, Data: data}
}

// made is the torrent of the files a, b, .. with these contents.
func made(t *testing.T, sc api.Scale, pieceLen int, files ...[]byte) *torrent {
	t.Helper()
	var l []api.Source
	for i, b := range files {
		l = append(l, source(string(rune('a'+i)), b))
	}
	x, ok := build(sc, pieceLen, l...)
	if !ok {
		t.Fatal("no torrent")
	}
	return x
}

// abc is the torrent of the document's examples.
func abc(t *testing.T) *torrent {
	t.Helper()
	return made(t, own, 64, []byte("abc"))
}

// telling is the text with those of the piece layers that keep tells.
func (x *torrent) telling(keep func(int) bool) []byte {
	m := x.m
	m.Layers = nil
	for i, l := range x.m.Layers {
		if keep(i) {
			m.Layers = append(m.Layers, l)
		}
	}
	text, e := meta.Print(x.sc, m)
	if e != api.OK {
		panic(e)
	}
	return text
}

// bare is the text without piece layers.
func (x *torrent) bare() []byte { return x.telling(func(int) bool { return false }) }

// need is how many sectors the torrent takes: a head, a ring of three more than there are pieces, and the pieces.
func (x *torrent) need() int {
	n := 4 + len(x.pieces)
	for _, b := range x.pieces {
		n += (len(b) + 63) / 64
	}
	return n
}

// blocks tells how many blocks there are.
func (x *torrent) blocks() int {
	n := 0
	for _, b := range x.pieces {
		n += (len(b) + x.sc.Block - 1) / x.sc.Block
	}
	return n
}

// share is the torrent's Share.
func (x *torrent) share(bare bool, moves ...api.Move) (api.Report, api.Errno) {
	return engine.Share(x.sc, x.name, x.pieceLen, x.sources, bare, moves)
}

// evidence is the torrent's Evidence for a run of some text, on a disk that is large enough.
func (x *torrent) evidence(text []byte, moves ...api.Move) ([]byte, []byte, api.Errno) {
	return engine.Evidence(x.sc, x.name, x.pieceLen, x.sources, text, x.need(), moves)
}

// run is a run of the torrent on a disk that is just large enough; it must start.
func (x *torrent) run(t *testing.T, text []byte, moves ...api.Move) api.Report {
	t.Helper()
	r, e := engine.Run(x.sc, text, x.info, x.need(), moves)
	if e != api.OK || r.Start != api.OK || len(r.Acts) != len(moves)+1 {
		t.Fatalf("Run = %v, %d", r, e)
	}
	return r
}

// hello is the handshake of somebody else for the torrent.
func (x *torrent) hello() []byte {
	h := api.Hello{Peer: [20]byte{9}}
	copy(h.Info[:], x.info[:])
	return frame.Greet(h)
}

// field is the bitfield of these pieces.
func (x *torrent) field(pieces ...int) api.Msg {
	b := make([]byte, (len(x.pieces)+7)/8)
	for _, i := range pieces {
		b[i/8] |= 128 >> (i % 8)
	}
	return api.Msg{Kind: api.MsgBitfield, Data: b}
}

// every lists all pieces.
func (x *torrent) every() []int {
	var l []int
	for i := range x.pieces {
		l = append(l, i)
	}
	return l
}

// block is the message that brings a block.
func (x *torrent) block(piece, block int) api.Msg {
	from := block * x.sc.Block
	data := x.pieces[piece][from:]
	return api.Msg{Kind: api.MsgPiece, Index: piece, Begin: from, Data: data[:min(x.sc.Block, len(data))]}
}

// plainly is a message that is its kind alone.
func plainly(kind int) api.Msg { return api.Msg{Kind: kind} }

// wire is the bytes of messages.
func wire(ms ...api.Msg) []byte {
	b, e := message.Wire(ms)
	if e != api.OK {
		panic(e)
	}
	return b
}

// The moves.
func join(peer int) api.Move  { return api.Move{Kind: api.MoveJoin, Peer: peer} }
func leave(peer int) api.Move { return api.Move{Kind: api.MoveLeave, Peer: peer} }
func sends(peer int, b ...[]byte) api.Move {
	return api.Move{Kind: api.MoveBytes, Peer: peer, Data: slices.Concat(b...)}
}
func says(peer int, m ...api.Msg) api.Move { return sends(peer, wire(m...)) }
func tick() api.Move                       { return api.Move{Kind: api.MoveTick} }
func syncs() api.Move                      { return api.Move{Kind: api.MoveSync} }
func fuse(n int) api.Move                  { return api.Move{Kind: api.MoveFuse, Cut: n} }
func carry() api.Move                      { return api.Move{Kind: api.MoveWire} }
func crash(keep ...bool) api.Move          { return api.Move{Kind: api.MoveCrash, Keep: keep, Torn: -1} }

// times is a move several times.
func times(n int, m api.Move) []api.Move { return slices.Repeat([]api.Move{m}, n) }

// seeds is what a peer says first that has everything and lets us ask.
func (x *torrent) seeds(peer int) []api.Move {
	return []api.Move{join(peer), sends(peer, x.hello(), wire(x.field(x.every()...), plainly(api.MsgUnchoke)))}
}

// fetched is a script by which a peer gives all blocks, piece by piece.
func (x *torrent) fetched(peer int) []api.Move {
	l := x.seeds(peer)
	for i, b := range x.pieces {
		for k := range (len(b) + x.sc.Block - 1) / x.sc.Block {
			l = append(l, says(peer, x.block(i, k)))
		}
	}
	return l
}

// us is our own handshake.
func (x *torrent) us() []byte {
	h := api.Hello{Flags: [8]byte{7: 16}, Peer: [20]byte([]byte("torrent-000000000000"))}
	copy(h.Info[:], x.info[:])
	return frame.Greet(h)
}

// to are acts that let bytes go to a peer.
func to(peer int, texts ...[]byte) []api.Act {
	var l []api.Act
	for _, b := range texts {
		l = append(l, api.Act{Kind: api.ActSend, Peer: peer, Data: b})
	}
	return l
}

func drop(peer int, why api.Errno) []api.Act {
	return []api.Act{{Kind: api.ActDrop, Peer: peer, Why: why}}
}

func ban(peer int) []api.Act {
	return []api.Act{{Kind: api.ActBan, Peer: peer, Why: api.ErrLied}}
}

func gotPiece(piece, file int) []api.Act {
	return []api.Act{{Kind: api.ActPiece, Piece: piece, File: file}}
}

func gotFile(file int) []api.Act { return []api.Act{{Kind: api.ActFile, File: file}} }

func failed(piece, file int) []api.Act {
	return []api.Act{{Kind: api.ActFail, Piece: piece, File: file}}
}

func sameAct(a, b api.Act) bool {
	return a.Kind == b.Kind && a.Peer == b.Peer && a.Piece == b.Piece && a.File == b.File && a.Why == b.Why && bytes.Equal(a.Data, b.Data)
}

func sameActs(a, b []api.Act) bool { return slices.EqualFunc(a, b, sameAct) }

func sameAnswer(a, b api.Answer) bool {
	return a.Query == b.Query && slices.Equal(a.Hashes, b.Hashes)
}

func sameReport(a, b api.Report) bool {
	return a.Start == b.Start && slices.EqualFunc(a.Acts, b.Acts, sameActs) && bytes.Equal(a.Have, b.Have) &&
		slices.Equal(a.Done, b.Done) && slices.EqualFunc(a.Files, b.Files, bytes.Equal) && slices.EqualFunc(a.Answers, b.Answers, sameAnswer)
}

// isNothing tells whether a report tells nothing, but perhaps why nothing started.
func isNothing(r api.Report) bool {
	return len(r.Acts)+len(r.Have)+len(r.Done)+len(r.Files)+len(r.Answers) == 0
}

// acts fails the test unless these acts came, in their order.
func acts(t *testing.T, what string, got []api.Act, want ...[]api.Act) {
	t.Helper()
	if w := slices.Concat(want...); !sameActs(got, w) {
		t.Fatalf("%s: acts\n%v\nwanted\n%v", what, got, w)
	}
}

func wants(t *testing.T, what string, e, want api.Errno) {
	t.Helper()
	if e != want {
		t.Fatalf("%s = %d, want %d", what, e, want)
	}
}

// isWhole tells whether all files are done and are those that were handed in.
func (x *torrent) isWhole(r api.Report) bool {
	return len(r.Done) == len(x.files) && !slices.Contains(r.Done, false) && slices.EqualFunc(r.Files, x.files, bytes.Equal)
}

// whole fails the test unless all files are done and as they were handed in.
func (x *torrent) whole(t *testing.T, r api.Report) {
	t.Helper()
	if !x.isWhole(r) {
		t.Fatalf("done: %v", r.Done)
	}
}

// told are the messages to a peer among acts, handshakes left out.
func told(acts []api.Act, peer int) []api.Msg {
	var l []api.Msg
	for _, a := range acts {
		if a.Kind == api.ActSend && a.Peer == peer && len(a.Data) != 68 {
			ms, _, _ := message.Unwire(a.Data)
			l = append(l, ms...)
		}
	}
	return l
}

// count tells how many messages of a kind there are.
func count(ms []api.Msg, kind int) int {
	n := 0
	for _, m := range ms {
		if m.Kind == kind {
			n++
		}
	}
	return n
}

func content(r *rand.Rand, n int) []byte {
	b := make([]byte, n)
	r.Read(b)
	return b
}

// some is content that hangs on its length alone.
func some(n int) []byte { return content(rand.New(rand.NewSource(int64(n)+1)), n) }

// randomTorrent is a torrent of a few files, at some scale, its files in no order.
func randomTorrent(r *rand.Rand) *torrent {
	for {
		sc := api.Scale{Block: 64 << r.Intn(2), Width: []int{1, 2, 32, 32, 32}[r.Intn(5)]}
		pieceLen := sc.Block << r.Intn(3)
		var l []api.Source
		for range 1 + r.Intn(4) {
			n := []int{0, r.Intn(sc.Block), r.Intn(2 * pieceLen), r.Intn(20 * sc.Block), pieceLen * (1 + r.Intn(20))}[r.Intn(5)]
			l = append(l, api.Source{Path: randomPath(r), Data: content(r, n)})
		}
		if r.Intn(3) == 0 {
			l = append(l, api.Source{Path: randomPath(r), Data: l[0].Data})
		}
		if x, ok := build(sc, pieceLen, l...); ok {
			return x
		}
	}
}

func randomPath(r *rand.Rand) []string {
	path := []string{string(rune('a' + r.Intn(20)))}
	if r.Intn(2) == 0 {
		path = append(path, string(rune('a'+r.Intn(20))))
	}
	return path
}

// empty is an empty disk.
func empty(t *testing.T, sectors int) *disk.Disk {
	t.Helper()
	d, e := disk.New(sectors)
	if e != api.OK {
		t.Fatal("disk.New:", e)
	}
	return d
}

// twin is another text of the same length and digest; nil, if none was found.
func twin(sc api.Scale, r *rand.Rand, b []byte) []byte {
	for range 3000 {
		if c := content(r, len(b)); digest.Clash(sc, b, c) {
			return c
		}
	}
	return nil
}

// nothing is an error with no answer beside it.
func nothing(a, b []byte, e, want api.Errno) bool { return e == want && len(a)+len(b) == 0 }
