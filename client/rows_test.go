package client_test

import (
	"bytes"
	"maps"
	"math/rand"
	"slices"
	"strings"
	"testing"

	"torrent/api"
	"torrent/disk"
	"torrent/extend"
	"torrent/frame"
	"torrent/message"
	"torrent/proof"
)

// mate is a peer that knows the protocol, and mostly keeps to it.
type mate struct {
	shaken  bool
	liar    bool
	mute    bool
	slow    bool
	plain   bool // never says that it has the info dictionary
	number  int  // for parts
	parts   []int
	asked   []api.Msg // the requests that wait
	queries []api.Msg
	rest    []byte // what it has said and not sent
}

// entry is a torrent that was added, with the disks of both.
type entry struct {
	*torrent
	d, w *disk.Disk
}

// crowd is a client among random peers.
type crowd struct {
	*watch
	r     *rand.Rand
	sc    api.Scale
	pool  []*torrent
	in    map[int]entry // by number
	gone  []entry
	mates map[[2]int]*mate
	seen  map[string]int
}

// randomTorrent is a torrent of a few files at a scale, or one that is none.
func randomTorrent(r *rand.Rand, sc api.Scale, name string) *torrent {
	if r.Intn(7) == 0 {
		return lone(sc, []byte([]string{"de", "x", "i1e", "d6:pieces0:e"}[r.Intn(4)]+strings.Repeat("y", r.Intn(2)*r.Intn(200))))
	}
	for {
		pieceLen := sc.Block << r.Intn(3)
		var files [][]byte
		for range 1 + r.Intn(4) {
			n := []int{0, r.Intn(sc.Block), r.Intn(2 * pieceLen), r.Intn(12 * sc.Block)}[r.Intn(4)]
			files = append(files, content(r, n))
		}
		if x, ok := build(sc, name, pieceLen, files...); ok {
			return x
		}
	}
}

func newCrowd(t *testing.T, seed int64) *crowd {
	t.Helper()
	r := rand.New(rand.NewSource(seed))
	c := &crowd{r: r, in: map[int]entry{}, mates: map[[2]int]*mate{}, seen: map[string]int{}}
	c.sc = api.Scale{Block: 64 << r.Intn(2), Width: []int{1, 2, 32, 32, 32}[r.Intn(5)]}
	c.watch = &watch{t: t, c: none(t, c.sc), p: newPlain(c.sc)}
	for i := range 2 + r.Intn(3) {
		c.pool = append(c.pool, randomTorrent(r, c.sc, "t"+num(i)))
	}
	return c
}

// someDisk is a disk for a torrent: mostly one that will do.
func (c *crowd) someDisk(x *torrent) *disk.Disk {
	if x.text == nil {
		return sectors(c.t, 40)
	}
	switch c.r.Intn(12) {
	case 0:
		return sectors(c.t, 4)
	case 1:
		other := c.pool[c.r.Intn(len(c.pool))]
		if other.text != nil {
			return other.filled(c.t)
		}
	case 2, 3, 4:
		return x.filled(c.t, slices.DeleteFunc(x.every(), func(int) bool { return c.r.Intn(2) == 0 })...)
	}
	return x.disk(c.t)
}

// add adds some torrent in some way.
func (c *crowd) add() {
	c.t.Helper()
	x := c.pool[c.r.Intn(len(c.pool))]
	d := c.someDisk(x)
	e := entry{torrent: x, d: d, w: d.Copy()}
	var a adds
	if c.r.Intn(3) == 0 {
		text := x.bare
		if c.r.Intn(2) == 0 {
			text = x.text
		}
		a = c.same("AddText", addText(c.watch.c, text, e.d), c.p.addText(text, e.w))
	} else {
		link := x.link([]string{"", "a name"}[c.r.Intn(2)])
		a = c.same("AddLink", addLink(c.watch.c, link, e.d), c.p.addLink(link, e.w))
	}
	c.seen["added with "+num(int(a.e))]++
	if a.e == api.OK {
		c.in[a.n] = e
	}
	c.note(a.n, a.acts)
}

// remove removes one, or none.
func (c *crowd) remove() {
	n := c.some()
	c.watch.remove(n)
	if e, ok := c.in[n]; ok {
		c.gone = append(c.gone, e)
	}
	delete(c.in, n)
	maps.DeleteFunc(c.mates, func(k [2]int, _ *mate) bool { return k[0] == n })
}

// some is mostly the number of a torrent.
func (c *crowd) some() int {
	if l := slices.Sorted(maps.Keys(c.in)); len(l) > 0 && c.r.Intn(30) > 0 {
		return l[c.r.Intn(len(l))]
	}
	return c.r.Intn(8) - 2
}

// note takes what a call said.
func (c *crowd) note(n int, l []api.Act) {
	c.t.Helper()
	for _, a := range l {
		c.seen["act "+num(a.Kind)]++
		switch a.Kind {
		case api.ActSend:
			c.told(n, a)
		case api.ActDrop, api.ActBan:
			c.seen["why "+num(int(a.Why))]++
			if a.Why != api.ErrCrowd && a.Why != api.ErrBanned {
				delete(c.mates, [2]int{n, a.Peer})
			}
		}
	}
}

// told lets a mate know what was said to it.
func (c *crowd) told(n int, a api.Act) {
	c.t.Helper()
	k := [2]int{n, a.Peer}
	if len(a.Data) == 68 && a.Data[0] == 19 {
		c.mates[k] = &mate{liar: c.r.Intn(4) == 0, mute: c.r.Intn(12) == 0, slow: c.r.Intn(8) == 0, plain: c.r.Intn(4) == 0}
		return
	}
	x := c.mates[k]
	bodies, size, e := frame.Split(a.Data)
	if x == nil || e != api.OK || size != len(a.Data) || len(bodies) != 1 {
		c.t.Fatalf("no message, or to who isn't connected: %s", shown([]api.Act{a}))
	}
	if len(bodies[0]) > 0 && bodies[0][0] == 20 {
		c.toldExtended(x, bodies[0])
		return
	}
	m, e := message.Decode(bodies[0])
	if e != api.OK {
		c.t.Fatalf("no message: %s", shown([]api.Act{a}))
	}
	c.seen["message "+num(m.Kind)]++
	switch m.Kind {
	case api.MsgRequest:
		x.asked = append(x.asked, m)
	case api.MsgHashRequest:
		x.queries = append(x.queries, m)
	}
}

// toldExtended is an extended message for a mate.
func (c *crowd) toldExtended(x *mate, body []byte) {
	c.t.Helper()
	number, payload, e := extend.Open(body)
	if number == 0 {
		w, f := extend.DecodeWish(payload)
		if e != api.OK || f != api.OK || w.Queue != 16 || w.Agent != "torrent" {
			c.t.Fatalf("our wish is %v, %d, %d", w, e, f)
		}
		c.seen["wish"]++
		return
	}
	s, e := extend.DecodeSheet(payload)
	if e != api.OK || number == 0 {
		c.t.Fatalf("a sheet %v, %d with the number %d", s, e, number)
	}
	c.seen["sheet "+num(s.Kind)]++
	if s.Kind == api.SheetAsk {
		x.parts = append(x.parts, s.Part)
	}
}

// wish is what a mate says of itself.
func (c *crowd) wish(e entry, x *mate) []byte {
	size := len(e.dict)
	if c.r.Intn(25) == 0 {
		size = []int{0, size + 1, 1, api.MaxText}[c.r.Intn(4)]
	}
	if c.r.Intn(15) == 0 {
		return ext(0, []string{"d1:md6:ut_pexi3eee", "d1:mde4:reqqi5ee", "d1:mdee", "de", "x"}[c.r.Intn(5)])
	}
	n := x.number
	if n == 0 || c.r.Intn(10) == 0 {
		n = c.r.Intn(6)
	}
	x.number = n
	return ext(0, wishText(n, size))
}

// part is what a mate answers to what it was asked for: mostly the part.
func (c *crowd) part(e entry, x *mate) []byte {
	if len(x.parts) == 0 {
		return ext(1, askText(c.r.Intn(5)))
	}
	i := x.parts[0]
	x.parts = x.parts[1:]
	all := e.parts()
	if i >= len(all) || c.r.Intn(40) == 0 {
		return ext(1, noText(i))
	}
	b := bytes.Clone(all[i])
	total := len(e.dict)
	switch k := c.r.Intn(60); {
	case k == 0:
		b = b[1:]
	case k == 1:
		total++
	case k == 2 || x.liar && k < 30:
		b[c.r.Intn(len(b))] ^= 1
	}
	return ext(1, dataText(i, total, b))
}

// give is what a mate answers to a request: mostly the block.
func (c *crowd) give(e entry, x *mate) []byte {
	if len(x.asked) == 0 {
		return alive
	}
	i := c.r.Intn(len(x.asked))
	m := e.block(x.asked[i].Index, x.asked[i].Begin/c.sc.Block)
	x.asked = slices.Delete(x.asked, i, i+1)
	if x.liar && c.r.Intn(2) == 0 || c.r.Intn(40) == 0 {
		m = wrong(m)
	}
	return wire(m)
}

// prove is what a mate answers to a query: mostly the truth.
func (c *crowd) prove(e entry, x *mate) []byte {
	if len(x.queries) == 0 {
		return alive
	}
	m := x.queries[0]
	x.queries = x.queries[1:]
	m.Kind = api.MsgHashes
	q := api.Query{Root: m.Root, Base: m.Base, Index: m.Index, Length: m.Length, Proofs: m.Proofs}
	for _, l := range e.m.Layers {
		if l.Root == q.Root {
			m.Hashes, _ = proof.Prove(c.sc, q.Base, l.Hashes, q)
		}
	}
	if len(m.Hashes) == 0 || c.r.Intn(12) == 0 {
		m.Kind, m.Hashes = api.MsgHashReject, nil
	} else if c.r.Intn(12) == 0 {
		m.Hashes[c.r.Intn(len(m.Hashes))][0] ^= 1
	}
	return wire(m)
}

// rare is what hardly anybody says.
func (c *crowd) rare() []byte {
	all := [][]byte{
		{255, 0, 0, 0}, {0, 0, 0, 1, 9}, framed([]byte{20}), ext(1, "x"), ext(1, "d8:msg_typei7ee"), ext(1, askText(-1)), ext(9, "x"), ext(2, askText(0)),
		bytes.Repeat([]byte{0, 0, 0, 1, 0}, 40), bytes.Repeat([]byte{0, 0, 0, 1, 3}, 65), ext(1, dataText(c.r.Intn(4), 9, []byte("x"))), ext(1, noText(c.r.Intn(4))), {0, 0, 0, 2, 5, 1}, bytes.Repeat(alive, 70),
	}
	return all[c.r.Intn(len(all))]
}

// word is something that a mate says.
func (c *crowd) word(e entry, x *mate) []byte {
	switch k := c.r.Intn(40); {
	case k < 3 && !x.plain:
		return c.wish(e, x)
	case k < 16 && !x.slow:
		return c.part(e, x)
	case k < 17:
		return ext(1, askText(c.r.Intn(6)))
	case k < 18:
		return wire(plainly([]int{api.MsgChoke, api.MsgInterested, api.MsgIdle, api.MsgAlive}[c.r.Intn(4)]))
	case k < 20:
		return wire(plainly(api.MsgUnchoke))
	case k < 21 && c.r.Intn(3) == 0:
		return c.rare()
	case k < 23 && len(e.pieces) > 0:
		return wire(api.Msg{Kind: api.MsgHave, Index: c.r.Intn(len(e.pieces))})
	case k < 24 && len(e.pieces) > 0:
		m := e.request(c.r.Intn(len(e.pieces)), 0)
		return wire(m)
	case k < 30:
		return c.prove(e, x)
	}
	return c.give(e, x)
}

// stream is the bytes of a mate's next words: first its handshake.
func (c *crowd) stream(e entry, x *mate) []byte {
	var b []byte
	if !x.shaken {
		x.shaken = true
		b = e.able()
		switch c.r.Intn(30) {
		case 0:
			b[30] ^= 1
		case 1:
			b[3] ^= 1
		case 2, 3, 4:
			b = e.hello()
		}
		if c.r.Intn(2) == 0 && !x.plain {
			b = append(b, c.wish(e, x)...)
		}
		if c.r.Intn(4) > 0 && len(e.pieces) > 0 {
			has := slices.DeleteFunc(e.every(), func(int) bool { return c.r.Intn(6) == 0 })
			b = append(b, wire(e.field(has...))...)
		}
		if c.r.Intn(4) > 0 {
			b = append(b, wire(plainly(api.MsgUnchoke))...)
		}
	}
	for range c.r.Intn(5) {
		b = append(b, c.word(e, x)...)
	}
	return b
}

// speak lets a mate say something, cut anywhere.
func (c *crowd) speak(n, peer int) {
	c.t.Helper()
	e, x := c.in[n], c.mates[[2]int{n, peer}]
	switch {
	case x == nil:
		c.note(n, c.bytes(n, peer, alive))
		return
	case x.mute && x.shaken:
		c.note(n, c.bytes(n, peer, nil))
		return
	}
	x.rest = append(x.rest, c.stream(e, x)...)
	k := len(x.rest)
	if c.r.Intn(5) == 0 {
		k = c.r.Intn(k + 1)
	}
	b := bytes.Clone(x.rest[:k])
	x.rest = bytes.Clone(x.rest[k:])
	was := c.phase(n)
	l := c.bytes(n, peer, b)
	if was != c.phase(n) {
		c.seen["turn to "+num(c.phase(n))]++
		if len(c.mates) > 2 {
			c.seen["turn of several"]++
		}
	} else if d := slices.DeleteFunc(drop(l), func(a api.Act) bool { return a.Peer == peer }); len(d) > 0 {
		c.t.Fatalf("bytes of %d closed another connection: %s", peer, shown(d))
	}
	c.note(n, l)
}

// phase is the plain torrent's; -1, if there is none.
func (c *crowd) phase(n int) int {
	if x := c.p.torrents[n]; x != nil {
		return x.phase
	}
	return -1
}

// step is one call of some kind.
func (c *crowd) step() {
	c.t.Helper()
	n, peer := c.some(), c.r.Intn(11)
	switch k := c.r.Intn(200); {
	case k < 3 || len(c.in) == 0:
		c.add()
	case k < 4 && c.r.Intn(4) == 0:
		c.remove()
	case k < 30:
		c.note(n, c.join(n, peer-c.r.Intn(2)))
	case k < 34:
		c.note(n, c.leave(n, peer))
		delete(c.mates, [2]int{n, peer})
	case k < 56:
		c.note(n, c.tick(n))
	case k < 58:
		c.sync(n)
	case k < 62:
		c.look(n)
	default:
		c.speak(n, peer)
	}
}

// end looks at all of it.
func (c *crowd) end() {
	c.t.Helper()
	lists(c.t, "the end", c.watch.c, slices.Sorted(maps.Keys(c.p.torrents))...)
	for n, e := range c.in {
		c.look(n)
		c.gone = append(c.gone, e)
		if x := c.p.torrents[n]; x.phase == api.PhaseRunning {
			c.seen["running"]++
			c.proved(x, e)
		}
	}
	for _, e := range c.gone {
		untouched(c.t, "the end", e.d, e.w)
	}
}

// proved fails the test unless the files that are complete are those of the torrent, where no two texts have one digest.
func (c *crowd) proved(x *plainTorrent, e entry) {
	c.t.Helper()
	for i, b := range e.files {
		got, f := x.s.File(i)
		if f != api.OK {
			continue
		}
		c.seen["file"]++
		if c.sc.Width == 32 && !bytes.Equal(got, b) {
			c.t.Fatalf("File(%d) = %q", i, got)
		}
	}
}

// P24.2 to P24.14: rows of calls of all kinds, at several scales, against the client of the chapter's words.
func TestRows(t *testing.T) {
	seen := map[string]int{}
	for seed := range int64(500) {
		c := newCrowd(t, seed)
		for range 600 {
			c.step()
		}
		c.end()
		for k, n := range c.seen {
			seen[k] += n
		}
	}
	for _, k := range []string{
		"act 1", "act 2", "act 3", "act 4", "act 5", "act 6", "wish", "sheet 0", "sheet 1", "sheet 2", "turn to 1", "turn to 2", "turn of several", "running", "file",
		"added with 0", "added with 242", "message -1", "message 2", "message 4", "message 6", "message 21",
		"why 100", "why 102", "why 110", "why 171", "why 191", "why 192", "why 193", "why 194", "why 196", "why 210", "why 212", "why 230", "why 232", "why 233", "why 244",
	} {
		if seen[k] < 20 {
			t.Errorf("the rows are too tame: %s: %d", k, seen[k])
		}
	}
}
