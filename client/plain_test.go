package client_test

import (
	"bytes"
	"maps"
	"slices"
	"testing"

	"torrent/api"
	"torrent/bencode"
	"torrent/client"
	"torrent/create"
	"torrent/disk"
	"torrent/exchange"
	"torrent/extend"
	"torrent/frame"
	"torrent/magnet"
	"torrent/meta"
	"torrent/session"
)

// line is a connection of the plain client.
type line struct {
	reader  *frame.Reader
	hello   []byte // the handshake's 68 bytes
	wish    api.Wish
	backlog [][]byte
	strikes int
	heard   int
}

// plainTorrent is a torrent of the plain client.
type plainTorrent struct {
	sc     api.Scale
	phase  int
	info   api.Hash
	name   string
	disk   *disk.Disk
	text   []byte
	why    api.Errno
	s      *session.Session
	fetch  *exchange.Fetch
	lines  map[int]*line
	banned map[int]bool
	now    int
	acts   []api.Act
}

// plain is the client of the chapter's words.
type plain struct {
	sc       api.Scale
	torrents map[int]*plainTorrent
	next     int
}

func newPlain(sc api.Scale) *plain {
	return &plain{sc: sc, torrents: map[int]*plainTorrent{}}
}

func (p *plain) present(info api.Hash) bool {
	for _, x := range p.torrents {
		if x.info == info {
			return true
		}
	}
	return false
}

func (p *plain) add(x *plainTorrent) int {
	x.sc, x.lines, x.banned = p.sc, map[int]*line{}, map[int]bool{}
	p.torrents[p.next] = x
	p.next++
	return p.next - 1
}

// addText is P24.2.
func (p *plain) addText(text []byte, d *disk.Disk) adds {
	if len(p.torrents) == 16 {
		return adds{e: api.ErrSlots}
	}
	info, e := meta.Infohash(p.sc, text)
	if e != api.OK {
		return adds{e: e}
	}
	if p.present(info) {
		return adds{e: api.ErrPresent}
	}
	s, l, e := session.New(p.sc, text, info, us, d)
	if e != api.OK {
		return adds{e: e}
	}
	return adds{p.add(&plainTorrent{phase: api.PhaseRunning, info: info, text: bytes.Clone(text), s: s}), l, api.OK}
}

// addLink is P24.3.
func (p *plain) addLink(link string, d *disk.Disk) adds {
	if d == nil {
		return adds{e: api.ErrNil}
	}
	if len(p.torrents) == 16 {
		return adds{e: api.ErrSlots}
	}
	l, _, e := magnet.Parse(link)
	if e != api.OK {
		return adds{e: e}
	}
	if p.present(l.Info) {
		return adds{e: api.ErrPresent}
	}
	f, _ := exchange.New(p.sc, l.Info)
	return adds{p.add(&plainTorrent{info: l.Info, name: l.Name, disk: d, fetch: f}), nil, api.OK}
}

func (x *plainTorrent) peers() []int { return slices.Sorted(maps.Keys(x.lines)) }

func (x *plainTorrent) act(a ...api.Act) { x.acts = append(x.acts, a...) }

// told are the acts since the last time.
func (x *plainTorrent) told() []api.Act {
	l := x.acts
	x.acts = nil
	return l
}

// heard is P24.11 for the acts of the session.
func (x *plainTorrent) heard(l []api.Act) {
	for _, a := range l {
		x.act(a)
		if a.Kind == api.ActDrop || a.Kind == api.ActBan {
			delete(x.lines, a.Peer)
		}
		if a.Kind == api.ActBan {
			x.banned[a.Peer] = true
		}
	}
}

// say says an extended message.
func (x *plainTorrent) say(peer, number int, payload []byte) {
	body, e := extend.Body(number, payload)
	if e != api.OK {
		panic(e)
	}
	x.act(sends(peer, framed(body))...)
}

func (x *plainTorrent) sheet(peer int, s api.Sheet) {
	n, _ := extend.Number(x.lines[peer].wish, "ut_metadata")
	b, e := extend.EncodeSheet(s)
	if e != api.OK {
		panic(e)
	}
	x.say(peer, n, b)
}

// dict is the info dictionary, if the torrent is running.
func (x *plainTorrent) dict() []byte {
	if x.phase != api.PhaseRunning {
		return nil
	}
	v, _, _ := bencode.Decode(x.text)
	v, _ = bencode.Get(v, []string{"info"})
	b, _ := bencode.Encode(v)
	return b
}

// forget is P24.11.
func (x *plainTorrent) forget(peer int) {
	delete(x.lines, peer)
	if x.phase == api.PhaseWaiting {
		x.fetch.Drop(peer)
	}
	if x.phase == api.PhaseRunning {
		x.heard(x.s.Leave(peer))
	}
}

func (x *plainTorrent) drop(peer int, why api.Errno) {
	x.act(drops(why, peer)...)
	x.forget(peer)
}

// join is P24.5.
func (x *plainTorrent) join(peer int) {
	switch {
	case peer < 0 || x.lines[peer] != nil:
		return
	case x.banned[peer]:
		x.act(drops(api.ErrBanned, peer)...)
		return
	case x.phase == api.PhaseBad:
		x.act(drops(x.why, peer)...)
		return
	case len(x.lines) == 8:
		x.act(drops(api.ErrCrowd, peer)...)
		return
	}
	x.lines[peer] = &line{reader: frame.New(true), heard: x.now}
	x.act(sends(peer, (&torrent{info: x.info}).ours())...)
	if x.phase == api.PhaseRunning {
		x.heard(x.s.Join(peer)[1:])
	} else {
		x.asking()
	}
}

// leave is P24.6.
func (x *plainTorrent) leave(peer int) {
	if x.lines[peer] == nil {
		return
	}
	x.forget(peer)
	x.asking()
}

// bytes is P24.7.
func (x *plainTorrent) bytes(peer int, b []byte) {
	l := x.lines[peer]
	if l == nil {
		return
	}
	if len(b) > 0 {
		l.heard = x.now
	}
	met, bodies, fault := l.reader.Push(b)
	var toSession []byte
	if len(met) == 1 {
		if !bytes.Equal(met[0].Info[:], x.info[:20]) {
			x.drop(peer, api.ErrPeerInfo)
			x.asking()
			return
		}
		toSession = frame.Greet(met[0])
		l.hello = toSession
		if met[0].Flags[5]/16%2 == 1 {
			x.say(peer, 0, ourWish(len(x.dict()))[6:])
		}
	}
	var extended [][]byte
	for _, body := range bodies {
		switch {
		case len(body) > 0 && body[0] == 20:
			extended = append(extended, body)
		case x.phase == api.PhaseRunning:
			toSession = append(toSession, framed(body)...)
		case len(body) > 0:
			l.backlog = append(l.backlog, body)
		}
	}
	if x.phase == api.PhaseRunning && len(toSession) > 0 {
		x.heard(x.s.Bytes(peer, toSession))
	}
	if x.phase == api.PhaseWaiting && len(l.backlog) > 64 {
		x.drop(peer, api.ErrBacklog)
	}
	for _, body := range extended {
		if x.lines[peer] == l {
			x.extended(peer, body)
		}
	}
	if fault != api.OK && x.lines[peer] == l {
		x.drop(peer, fault)
	}
	x.asking()
}

// extended is P24.8.
func (x *plainTorrent) extended(peer int, body []byte) {
	number, payload, e := extend.Open(body)
	if e != api.OK {
		x.drop(peer, e)
		return
	}
	if number == 0 {
		w, e := extend.DecodeWish(payload)
		if e != api.OK {
			x.drop(peer, e)
			return
		}
		l := x.lines[peer]
		l.wish = extend.Merge(l.wish, w)
		if x.phase == api.PhaseWaiting && l.wish.Size != 0 {
			if e := x.fetch.Size(peer, l.wish.Size); e != api.OK {
				x.drop(peer, e)
			}
		}
	}
	if number == 1 {
		s, e := extend.DecodeSheet(payload)
		if e == api.ErrExtKind {
			return
		}
		if e != api.OK {
			x.drop(peer, e)
			return
		}
		x.parts(peer, s)
	}
}

// parts is P24.8 for a sheet.
func (x *plainTorrent) parts(peer int, s api.Sheet) {
	if s.Kind == api.SheetAsk {
		if n, _ := extend.Number(x.lines[peer].wish, "ut_metadata"); n == 0 {
			return
		}
		if x.phase == api.PhaseRunning {
			if b, e := exchange.Part(x.sc, x.dict(), s.Part); e == api.OK {
				x.sheet(peer, api.Sheet{Kind: api.SheetData, Part: s.Part, Total: len(x.dict()), Data: b})
				return
			}
		}
		x.sheet(peer, api.Sheet{Kind: api.SheetNo, Part: s.Part})
		return
	}
	if x.phase != api.PhaseWaiting {
		return
	}
	if s.Kind == api.SheetNo {
		x.fetch.Refuse(peer, s.Part)
		return
	}
	done, e := x.fetch.Take(peer, s.Part, s.Total, s.Data)
	switch {
	case e == api.ErrUnasked:
	case e == api.ErrPartLie:
		x.act(bans(e, peer)...)
		x.banned[peer] = true
		x.forget(peer)
	case e != api.OK:
		x.drop(peer, e)
	case done:
		x.turn()
	}
}

// turn is P24.9.
func (x *plainTorrent) turn() {
	dict, _ := x.fetch.Info()
	x.text = []byte("d4:info" + string(dict) + "12:piece layersdee")
	s, l, e := session.New(x.sc, x.text, x.info, us, x.disk)
	if e != api.OK {
		x.phase, x.why = api.PhaseBad, e
		for _, peer := range x.peers() {
			x.act(drops(e, peer)...)
		}
		clear(x.lines)
		return
	}
	x.phase, x.s = api.PhaseRunning, s
	x.heard(l)
	for _, peer := range x.peers() {
		x.heard(s.Join(peer)[1:])
		if l := x.lines[peer]; len(l.hello) > 0 {
			b := bytes.Clone(l.hello)
			for _, body := range l.backlog {
				b = append(b, framed(body)...)
			}
			x.heard(s.Bytes(peer, b))
		}
	}
}

// asking is P24.10.
func (x *plainTorrent) asking() {
	if x.phase != api.PhaseWaiting {
		return
	}
	for _, peer := range x.peers() {
		if n, _ := extend.Number(x.lines[peer].wish, "ut_metadata"); n != 0 {
			if part, ok, _ := x.fetch.Next(peer, x.now); ok {
				x.sheet(peer, api.Sheet{Kind: api.SheetAsk, Part: part})
			}
		}
	}
}

// tick is P24.12.
func (x *plainTorrent) tick() {
	if x.phase == api.PhaseRunning {
		x.heard(x.s.Tick())
	}
	if x.phase != api.PhaseWaiting {
		return
	}
	x.now++
	for _, peer := range x.fetch.Expire(x.now) {
		x.lines[peer].strikes++
	}
	for _, peer := range x.peers() {
		if x.lines[peer].strikes >= 3 {
			x.drop(peer, api.ErrSlow)
		} else if x.now-x.lines[peer].heard >= 24 {
			x.drop(peer, api.ErrQuiet)
		}
	}
	for _, peer := range x.peers() {
		if x.now%8 == 0 && len(x.lines[peer].hello) > 0 {
			x.act(sends(peer, alive)...)
		}
	}
	x.asking()
}

// state is P24.14.
func (x *plainTorrent) state() api.Status {
	s := api.Status{Phase: x.phase, Why: x.why, Info: x.info, Name: x.name, Peers: x.peers()}
	if x.phase != api.PhaseRunning {
		return s
	}
	m, _ := meta.Parse(x.sc, x.text)
	s.Name = m.Name
	s.Pieces, _ = create.Pieces(m)
	have := x.s.Have()
	for i := range s.Pieces {
		s.Had += int(have[i/8] >> (7 - i%8) & 1)
	}
	for i := range m.Files {
		_, e := x.s.File(i)
		s.Done = append(s.Done, e == api.OK)
	}
	return s
}

// file, answers, whole and sync are P24.13.
func (x *plainTorrent) file(i int) ([]byte, api.Errno) {
	if x.phase != api.PhaseRunning {
		return nil, api.ErrWaiting
	}
	return x.s.File(i)
}

func (x *plainTorrent) answers() ([]api.Answer, api.Errno) {
	if x.phase != api.PhaseRunning {
		return nil, api.ErrWaiting
	}
	return x.s.Answers(), api.OK
}

func (x *plainTorrent) whole() ([]byte, api.Errno) {
	if x.phase == api.PhaseWaiting {
		return nil, api.ErrWaiting
	}
	return x.text, api.OK
}

func (x *plainTorrent) sync() api.Errno {
	if x.phase != api.PhaseRunning {
		return api.ErrWaiting
	}
	return x.s.Sync()
}

// watch holds a client against the plain one, call by call.
type watch struct {
	t *testing.T
	c *client.Client
	p *plain
}

// acted fails the test unless a call told what the plain torrent did.
func (w *watch) acted(what string, n, peer int, got []api.Act, does func(x *plainTorrent)) []api.Act {
	w.t.Helper()
	var want []api.Act
	if x := w.p.torrents[n]; x != nil {
		does(x)
		want = x.told()
	}
	if !sameActs(got, want) {
		w.t.Fatalf("%s(%d, %d): acts\n%s\nwanted\n%s", what, n, peer, shown(got), shown(want))
	}
	return got
}

func (w *watch) join(n, peer int) []api.Act {
	w.t.Helper()
	return w.acted("Join", n, peer, w.c.Join(n, peer), func(x *plainTorrent) { x.join(peer) })
}

func (w *watch) leave(n, peer int) []api.Act {
	w.t.Helper()
	return w.acted("Leave", n, peer, w.c.Leave(n, peer), func(x *plainTorrent) { x.leave(peer) })
}

func (w *watch) bytes(n, peer int, b []byte) []api.Act {
	w.t.Helper()
	return w.acted("Bytes", n, peer, w.c.Bytes(n, peer, b), func(x *plainTorrent) { x.bytes(peer, b) })
}

func (w *watch) tick(n int) []api.Act {
	w.t.Helper()
	return w.acted("Tick", n, 0, w.c.Tick(n), func(x *plainTorrent) { x.tick() })
}

// look asks for all that can be asked about a torrent.
func (w *watch) look(n int) {
	w.t.Helper()
	x := w.p.torrents[n]
	if x == nil {
		asksNothing(w.t, w.c, n, api.ErrTorrent)
		return
	}
	got, e := w.c.State(n)
	want := x.state()
	if e != api.OK || got.Phase != want.Phase || got.Why != want.Why || got.Info != want.Info || got.Name != want.Name || got.Pieces != want.Pieces || got.Had != want.Had || !slices.Equal(got.Done, want.Done) || !slices.Equal(got.Peers, want.Peers) {
		w.t.Fatalf("State(%d) = %v, %d, want %v", n, got, e, want)
	}
	for i := -1; i <= len(want.Done); i++ {
		b, e := w.c.File(n, i)
		c, f := x.file(i)
		if e != f || !bytes.Equal(b, c) {
			w.t.Fatalf("File(%d, %d) = %q, %d, want %q, %d", n, i, b, e, c, f)
		}
	}
	b, e := w.c.Text(n)
	c, f := x.whole()
	if e != f || !bytes.Equal(b, c) {
		w.t.Fatalf("Text(%d) = %q, %d, want %q, %d", n, b, e, c, f)
	}
	l, e := w.c.Answers(n)
	m, f := x.answers()
	if e != f || !slices.EqualFunc(l, m, func(a, b api.Answer) bool { return a.Query == b.Query && slices.Equal(a.Hashes, b.Hashes) }) {
		w.t.Fatalf("Answers(%d) = %v, %d, want %v, %d", n, l, e, m, f)
	}
}

// sync lets both sync.
func (w *watch) sync(n int) {
	w.t.Helper()
	want := api.ErrTorrent
	if x := w.p.torrents[n]; x != nil {
		want = x.sync()
	}
	wants(w.t, "Sync", w.c.Sync(n), want)
}

// remove lets both remove.
func (w *watch) remove(n int) {
	w.t.Helper()
	want := api.ErrTorrent
	if w.p.torrents[n] != nil {
		want = api.OK
		delete(w.p.torrents, n)
	}
	wants(w.t, "Remove", w.c.Remove(n), want)
}

// same fails the test unless both answered the same to an addition.
func (w *watch) same(what string, got, want adds) adds {
	w.t.Helper()
	if got.n != want.n || got.e != want.e || !sameActs(got.acts, want.acts) {
		w.t.Fatalf("%s = %d, %s, %d, want %d, %s, %d", what, got.n, shown(got.acts), got.e, want.n, shown(want.acts), want.e)
	}
	return got
}
