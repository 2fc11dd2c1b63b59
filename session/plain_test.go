package session_test

import (
	"bytes"
	"maps"
	"slices"
	"testing"

	"torrent/api"
	"torrent/book"
	"torrent/create"
	"torrent/disk"
	"torrent/peer"
	"torrent/picker"
	"torrent/session"
	"torrent/store"
	"torrent/upload"
)

// line is a connection of the plain session.
type line struct {
	c       *peer.Peer
	strikes int
	heard   int
	alone   map[api.Block][]byte
}

// plain is the session of the chapter's words, on a torrent that may be.
type plain struct {
	x       *torrent
	store   *store.Store
	book    *book.Book
	picker  *picker.Picker
	upload  *upload.Upload
	lines   map[int]*line
	banned  map[int]bool
	now     int
	answers []api.Answer
	acts    []api.Act
	alone   int // how many pieces that were fetched alone came to be had,
	found   int // and how many were found on the disk when their hashes came
}

// newPlain is the plain session on a disk. Its first acts are told as those of a call.
func newPlain(x *torrent, d *disk.Disk) *plain {
	p := &plain{x: x, lines: map[int]*line{}, banned: map[int]bool{}}
	p.store, _ = store.Open(x.sc, d, x.info, x.list)
	p.book, _ = book.New(x.sc, x.m)
	p.upload, _ = upload.New(x.sc, x.m, p.store)
	var blocks []int
	for i := range x.pieces {
		n, _ := create.Blocks(x.sc, x.m, i)
		blocks = append(blocks, n)
	}
	p.picker, _ = picker.New(blocks, p.store.Have())
	for i := range x.pieces {
		if _, ok, _ := p.book.Known(i); ok {
			p.picker.Ready(i)
		}
	}
	for i := range x.pieces {
		if p.has(i) {
			p.act(gotPiece(i, p.file(i)))
		}
	}
	for i := range x.files {
		if p.complete(i) {
			p.act(gotFile(i))
		}
	}
	return p
}

func (p *plain) act(l []api.Act) { p.acts = append(p.acts, l...) }

// told are the acts since the last time.
func (p *plain) told() []api.Act {
	l := p.acts
	p.acts = nil
	return l
}

func (p *plain) has(piece int) bool { return p.store.Have()[piece/8]>>(7-piece%8)&1 == 1 }

func (p *plain) file(piece int) int {
	at, _ := create.Where(p.x.m, piece)
	return at.File
}

func (p *plain) complete(file int) bool {
	first, n, _ := create.Row(p.x.m, file)
	for i := first; i < first+n; i++ {
		if !p.has(i) {
			return false
		}
	}
	return true
}

func (p *plain) peers() []int { return slices.Sorted(maps.Keys(p.lines)) }

func (p *plain) shaken() []int {
	var l []int
	for _, i := range p.peers() {
		if p.lines[i].c.State().Shaken {
			l = append(l, i)
		}
	}
	return l
}

func (p *plain) goes(to int, m api.Msg) {
	if b, e := p.lines[to].c.Say(m); e == api.OK {
		p.act([]api.Act{{Kind: api.ActSend, Peer: to, Data: b}})
	}
}

// forget is P19.8.
func (p *plain) forget(peer int) {
	delete(p.lines, peer)
	p.picker.Leave(peer)
	p.upload.Leave(peer)
	p.book.Drop(peer)
}

// join is P19.2.
func (p *plain) join(number int) []api.Act {
	switch {
	case number < 0 || p.lines[number] != nil:
		return nil
	case p.banned[number]:
		return drop(number, api.ErrBanned)
	case len(p.lines) == 8:
		return drop(number, api.ErrCrowd)
	}
	var lens []int
	for _, b := range p.x.pieces {
		lens = append(lens, len(b))
	}
	c, _ := peer.New(p.x.sc, p.x.info, lens)
	p.lines[number] = &line{c: c, heard: p.now, alone: map[api.Block][]byte{}}
	p.act([]api.Act{{Kind: api.ActSend, Peer: number, Data: c.Greet(us)}})
	p.round()
	return p.told()
}

// leave is P19.3.
func (p *plain) leave(peer int) []api.Act {
	if p.lines[peer] == nil {
		return nil
	}
	p.forget(peer)
	p.round()
	return p.told()
}

// bytes is P19.4.
func (p *plain) bytes(peer int, b []byte) []api.Act {
	if p.lines[peer] == nil {
		return nil
	}
	if len(b) > 0 {
		p.lines[peer].heard = p.now
	}
	events, e := p.lines[peer].c.Feed(b)
	for _, v := range events {
		if p.lines[peer] != nil {
			p.event(peer, v)
		}
	}
	if e != api.OK && p.lines[peer] != nil {
		p.act(drop(peer, e))
		p.forget(peer)
	}
	p.round()
	return p.told()
}

// tick is P19.5.
func (p *plain) tick() []api.Act {
	p.now++
	for _, d := range p.picker.Expire(p.now) {
		p.lines[d.Peer].strikes++
		p.goes(d.Peer, p.x.cancel(d.Piece, d.Block))
	}
	for _, l := range p.book.Expire(p.now) {
		p.lines[l.Peer].strikes++
	}
	for _, i := range p.peers() {
		if p.lines[i].strikes >= 3 {
			p.act(drop(i, api.ErrSlow))
			p.forget(i)
		} else if p.now-p.lines[i].heard >= 24 {
			p.act(drop(i, api.ErrQuiet))
			p.forget(i)
		}
	}
	for _, o := range p.upload.Tick(p.now) {
		p.goes(o.Peer, o.Msg)
	}
	if p.now%8 == 0 {
		for _, i := range p.shaken() {
			p.goes(i, plainly(api.MsgAlive))
		}
	}
	p.round()
	return p.told()
}

// event is P19.6.
func (p *plain) event(peer int, v api.Event) {
	m := v.Msg
	q := api.Query{Root: m.Root, Base: m.Base, Index: m.Index, Length: m.Length, Proofs: m.Proofs}
	if v.Hello {
		p.picker.Join(peer)
		p.upload.Join(peer)
		for i := range p.x.pieces {
			if p.has(i) {
				p.goes(peer, api.Msg{Kind: api.MsgBitfield, Data: p.store.Have()})
				break
			}
		}
		return
	}
	switch m.Kind {
	case api.MsgChoke:
		p.picker.Choked(peer)
	case api.MsgInterested:
		p.upload.Interest(peer, true)
	case api.MsgIdle:
		p.upload.Interest(peer, false)
	case api.MsgHave:
		p.picker.Has(peer, m.Index)
	case api.MsgBitfield:
		p.picker.Field(peer, m.Data)
	case api.MsgRequest:
		p.upload.Request(peer, m.Index, m.Begin, m.Length)
	case api.MsgCancel:
		p.upload.Cancel(peer, m.Index, m.Begin, m.Length)
	case api.MsgPiece:
		p.block(peer, m)
	case api.MsgHashRequest:
		if a, e := p.upload.Hashes(peer, q); e == api.OK {
			p.goes(peer, a)
		}
	case api.MsgHashes:
		p.hashes(peer, q, m.Hashes)
	case api.MsgHashReject:
		p.book.Reject(peer, q)
	}
}

func (p *plain) hashes(peer int, q api.Query, hashes []api.Hash) {
	told, e := p.book.Accept(peer, q, hashes)
	switch e {
	case api.ErrUnasked:
		return
	case api.OK:
	default:
		p.ban(peer)
		return
	}
	p.answers = append(p.answers, api.Answer{Query: q, Hashes: hashes})
	for _, i := range told {
		h, _, _ := p.book.Known(i)
		p.upload.Learn(i, h)
		if had, _ := p.store.Learn(i, h); had {
			p.found++
			p.had(i)
		} else {
			p.picker.Ready(i)
		}
	}
}

func (p *plain) ban(peer int) {
	p.act(ban(peer))
	p.banned[peer] = true
	p.forget(peer)
}

// block is P19.7.
func (p *plain) block(peer int, m api.Msg) {
	k := m.Begin / p.x.sc.Block
	alone, _ := p.picker.Alone(m.Index)
	others, full, e := p.picker.Got(peer, m.Index, k)
	if e != api.OK {
		return
	}
	p.upload.Credit(peer, len(m.Data))
	if !alone {
		p.store.Put(m.Index, m.Begin, m.Data)
		for _, i := range others {
			p.goes(i, p.x.cancel(m.Index, k))
		}
		if full {
			p.held(m.Index)
		}
		return
	}
	mine := p.lines[peer].alone
	mine[api.Block{Piece: m.Index, Block: k}] = bytes.Clone(m.Data)
	if full {
		n, _ := create.Blocks(p.x.sc, p.x.m, m.Index)
		for i := range n {
			b := api.Block{Piece: m.Index, Block: i}
			at, _ := create.Block(p.x.sc, p.x.m, m.Index, i)
			p.store.Put(m.Index, at.From, mine[b])
			delete(mine, b)
		}
		p.held(m.Index)
	}
}

func (p *plain) held(piece int) {
	if p.store.Finish(piece) == api.OK {
		p.had(piece)
		return
	}
	givers, _ := p.picker.Checked(piece, false)
	p.act(failed(piece, p.file(piece)))
	if len(givers) == 1 {
		p.ban(givers[0])
	}
}

func (p *plain) had(piece int) {
	for _, i := range p.peers() {
		asked, _ := p.picker.Asked(i)
		for _, b := range asked {
			if b.Piece == piece {
				p.goes(i, p.x.cancel(piece, b.Block))
			}
		}
	}
	if on, _ := p.picker.Alone(piece); on {
		p.alone++
	}
	p.picker.Checked(piece, true)
	for _, l := range p.lines {
		maps.DeleteFunc(l.alone, func(b api.Block, _ []byte) bool { return b.Piece == piece })
	}
	p.act(gotPiece(piece, p.file(piece)))
	for _, i := range p.shaken() {
		p.goes(i, have(piece))
	}
	if p.complete(p.file(piece)) {
		p.act(gotFile(p.file(piece)))
	}
}

// round is P19.9.
func (p *plain) round() {
	for _, i := range p.shaken() {
		want, _ := p.picker.Wants(i)
		if want != p.lines[i].c.State().AmInterested {
			if want {
				p.goes(i, plainly(api.MsgInterested))
			} else {
				p.goes(i, plainly(api.MsgIdle))
			}
		}
		if want {
			if q, ok, _ := p.book.Next(i, p.now); ok {
				p.goes(i, api.Msg{Kind: api.MsgHashRequest, Root: q.Root, Base: q.Base, Index: q.Index, Length: q.Length, Proofs: q.Proofs})
			}
		}
		for want && !p.lines[i].c.State().Choking {
			b, ok, _ := p.picker.Pick(i, p.now)
			if !ok {
				break
			}
			p.goes(i, p.x.request(b.Piece, b.Block))
		}
	}
}

// watch holds a session against the plain one, call by call, on disks that are to stay the same.
type watch struct {
	*torrent
	t    *testing.T
	s    *session.Session
	p    *plain
	d, w *disk.Disk
}

// watched is a session on a disk, watched, and what it found there.
func (x *torrent) watched(t *testing.T, d *disk.Disk) (*watch, []api.Act) {
	t.Helper()
	w := &watch{torrent: x, t: t, d: d, w: d.Copy()}
	return w, w.again()
}

// begin is a session on an empty disk, watched.
func (x *torrent) begin(t *testing.T) *watch {
	t.Helper()
	w, _ := x.watched(t, x.disk(t))
	return w
}

// again starts anew, on the same disk.
func (x *watch) again() []api.Act {
	x.t.Helper()
	var found []api.Act
	x.s, found = x.start(x.t, x.d)
	old := x.p
	if x.p = newPlain(x.torrent, x.w); old != nil {
		x.p.alone, x.p.found = old.alone, old.found
	}
	return x.same("New", found, x.p.told())
}

// same holds the acts of a call, and what can be seen then, against the plain session.
func (x *watch) same(what string, got, want []api.Act) []api.Act {
	x.t.Helper()
	acts(x.t, what, got, want)
	if !bytes.Equal(x.s.Have(), x.p.store.Have()) {
		x.t.Fatalf("%s: Have is %v, wanted %v", what, x.s.Have(), x.p.store.Have())
	}
	if !slices.Equal(x.s.Peers(), x.p.peers()) {
		x.t.Fatalf("%s: Peers are %v, wanted %v", what, x.s.Peers(), x.p.peers())
	}
	sameAnswer := func(a, b api.Answer) bool { return a.Query == b.Query && slices.Equal(a.Hashes, b.Hashes) }
	if !slices.EqualFunc(x.s.Answers(), x.p.answers, sameAnswer) {
		x.t.Fatalf("%s: Answers are %v, wanted %v", what, x.s.Answers(), x.p.answers)
	}
	if !slices.Equal(x.d.Pending(), x.w.Pending()) || !bytes.Equal(x.d.Image(), x.w.Image()) {
		x.t.Fatalf("%s: the disk is another one", what)
	}
	return got
}

func (x *watch) join(peer int) []api.Act {
	x.t.Helper()
	return x.same("Join", x.s.Join(peer), x.p.join(peer))
}

func (x *watch) leave(peer int) []api.Act {
	x.t.Helper()
	return x.same("Leave", x.s.Leave(peer), x.p.leave(peer))
}

func (x *watch) bytes(peer int, b []byte) []api.Act {
	x.t.Helper()
	return x.same("Bytes", x.s.Bytes(peer, b), x.p.bytes(peer, b))
}

// says is bytes of whole messages.
func (x *watch) says(peer int, ms ...api.Msg) []api.Act {
	x.t.Helper()
	return x.bytes(peer, wire(ms...))
}

func (x *watch) tick() []api.Act {
	x.t.Helper()
	return x.same("Tick", x.s.Tick(), x.p.tick())
}

func (x *watch) sync() {
	x.t.Helper()
	wants(x.t, "Sync", x.s.Sync(), x.p.store.Sync())
	x.same("Sync", nil, nil)
}

// meet lets peers join, shake hands and say something.
func (x *watch) meet(ms []api.Msg, peers ...int) {
	x.t.Helper()
	for _, i := range peers {
		x.join(i)
		x.bytes(i, x.hello())
		x.says(i, ms...)
	}
}

// seeds lets peers join that have all pieces and choke nobody.
func (x *watch) seeds(peers ...int) {
	x.t.Helper()
	x.meet([]api.Msg{x.field(x.every()...), plainly(api.MsgUnchoke)}, peers...)
}
