package session_test

import (
	"bytes"
	"math/rand"
	"slices"
	"testing"

	"torrent/api"
	"torrent/message"
	"torrent/proof"
	"torrent/tree"
)

// mate is somebody whom a session may be connected to, and what it was told by it.
type mate struct {
	shaken  bool
	liar    bool
	mute    bool
	asked   []api.Msg // the requests that wait
	queries []api.Msg
	rest    []byte // what it has said and not sent
}

// crowd is a session among random peers.
type crowd struct {
	*watch
	r     *rand.Rand
	mates map[int]*mate
	seen  map[int]int       // acts, by their kinds
	whys  map[api.Errno]int // of those that close a connection
	sent  map[int]int       // messages that went to peers, by their kinds
}

// randomTorrent is a torrent of a few files, at some scale, with some of its layers.
func randomTorrent(r *rand.Rand) *torrent {
	for {
		sc := api.Scale{Block: 64 << r.Intn(2), Width: []int{1, 2, 32, 32, 32}[r.Intn(5)]}
		pieceLen := sc.Block << r.Intn(3)
		var files [][]byte
		for range 1 + r.Intn(4) {
			n := []int{0, r.Intn(sc.Block), r.Intn(2 * pieceLen), r.Intn(20 * sc.Block), pieceLen * (1 + r.Intn(20))}[r.Intn(5)]
			files = append(files, content(r, n))
		}
		if r.Intn(3) == 0 {
			files = append(files, files[r.Intn(len(files))])
		}
		told := r.Intn(3)
		x, ok := build(sc, pieceLen, func(int) bool { return r.Intn(2) < told }, files...)
		if ok {
			return x
		}
	}
}

// some is a random torrent's session in a crowd, on a disk that may have some of its pieces.
func someCrowd(t *testing.T, r *rand.Rand) *crowd {
	t.Helper()
	x := randomTorrent(r)
	c := &crowd{r: r, mates: map[int]*mate{}, seen: map[int]int{}, whys: map[api.Errno]int{}, sent: map[int]int{}}
	d := x.disk(t)
	if r.Intn(3) == 0 {
		d = x.filled(t, slices.DeleteFunc(x.every(), func(int) bool { return r.Intn(2) == 0 })...)
	}
	w, found := x.watched(t, d)
	c.watch = w
	c.note(found)
	return c
}

// note takes what a call said.
func (c *crowd) note(l []api.Act) {
	for _, a := range l {
		c.seen[a.Kind]++
		switch a.Kind {
		case api.ActSend:
			c.told(a)
		case api.ActDrop, api.ActBan:
			c.whys[a.Why]++
			if a.Why != api.ErrCrowd && a.Why != api.ErrBanned {
				delete(c.mates, a.Peer)
			}
		}
	}
}

// told lets a mate know what was said to it.
func (c *crowd) told(a api.Act) {
	if len(a.Data) == 68 && a.Data[0] == 19 {
		c.mates[a.Peer] = &mate{liar: c.r.Intn(3) == 0, mute: c.r.Intn(12) == 0}
		return
	}
	ms, n, e := message.Unwire(a.Data)
	if e != api.OK || n != len(a.Data) || len(ms) != 1 {
		c.t.Fatalf("no message: %v", a)
	}
	m, x := ms[0], c.mates[a.Peer]
	if x == nil {
		c.t.Fatalf("an act for who isn't connected: %v", a)
	}
	c.sent[m.Kind]++
	switch m.Kind {
	case api.MsgRequest:
		x.asked = append(x.asked, m)
	case api.MsgCancel:
		x.asked = slices.DeleteFunc(x.asked, func(o api.Msg) bool {
			return o.Index == m.Index && o.Begin == m.Begin && o.Length == m.Length
		})
	case api.MsgHashRequest:
		x.queries = append(x.queries, m)
	}
}

// give is what a mate answers to a request; mostly the block.
func (c *crowd) give(x *mate) api.Msg {
	if len(x.asked) == 0 {
		return plainly(api.MsgAlive)
	}
	i := c.r.Intn(len(x.asked))
	m := c.block(x.asked[i].Index, x.asked[i].Begin/c.sc.Block)
	x.asked = slices.Delete(x.asked, i, i+1)
	if x.liar && c.r.Intn(2) == 0 || c.r.Intn(40) == 0 {
		return wrong(m)
	}
	return m
}

// prove is what a mate answers to a query; mostly the truth.
func (c *crowd) prove(x *mate) api.Msg {
	if len(x.queries) == 0 {
		return plainly(api.MsgAlive)
	}
	i := c.r.Intn(len(x.queries))
	m := x.queries[i]
	x.queries = slices.Delete(x.queries, i, i+1)
	if c.r.Intn(6) == 0 {
		m.Kind = api.MsgHashReject
		return m
	}
	m.Kind = api.MsgHashes
	q := api.Query{Root: m.Root, Base: m.Base, Index: m.Index, Length: m.Length, Proofs: m.Proofs}
	for _, l := range c.full.Layers {
		if l.Root == q.Root {
			m.Hashes, _ = proof.Prove(c.sc, q.Base, l.Hashes, q)
		}
	}
	if c.r.Intn(12) == 0 && len(m.Hashes) > 0 {
		m.Hashes[c.r.Intn(len(m.Hashes))][0] ^= 1
	}
	if c.r.Intn(20) == 0 {
		m.Index += 8
	}
	return m
}

// wish is a request of a mate for some bytes, or what takes it back.
func (c *crowd) wish(kind int) api.Msg {
	i := c.r.Intn(len(c.pieces))
	n := 1 + c.r.Intn(min(c.sc.Block, len(c.pieces[i])))
	return api.Msg{Kind: kind, Index: i, Begin: min(c.r.Intn(3), len(c.pieces[i])-n), Length: n}
}

// doubt is a query of a mate.
func (c *crowd) doubt() api.Msg {
	f := c.m.Files[c.r.Intn(len(c.m.Files))]
	n := 2 << c.r.Intn(3)
	return api.Msg{Kind: api.MsgHashRequest, Root: f.Root, Base: c.r.Intn(4), Index: n * c.r.Intn(3), Length: n, Proofs: c.r.Intn(5)}
}

// word is something that a mate says.
func (c *crowd) word(x *mate) api.Msg {
	if len(c.pieces) == 0 {
		return plainly([]int{api.MsgAlive, api.MsgChoke, api.MsgInterested}[c.r.Intn(3)])
	}
	switch c.r.Intn(24) {
	case 0:
		return plainly(api.MsgChoke)
	case 1, 2, 3:
		return plainly(api.MsgUnchoke)
	case 4:
		return plainly(api.MsgInterested)
	case 5:
		if c.r.Intn(3) == 0 {
			return plainly(api.MsgIdle)
		}
		return api.Msg{Kind: api.MsgOther, Index: 77, Data: []byte("x")}
	case 6:
		return have(c.r.Intn(len(c.pieces)))
	case 7, 8:
		return c.wish(api.MsgRequest)
	case 9:
		return c.wish(api.MsgCancel)
	case 10:
		i := c.r.Intn(len(c.pieces))
		return c.block(i, c.r.Intn((len(c.pieces[i])+c.sc.Block-1)/c.sc.Block))
	case 11:
		return c.doubt()
	case 12, 13, 14:
		return c.prove(x)
	}
	return c.give(x)
}

// stream is the bytes of a mate's next words: first its handshake.
func (c *crowd) stream(x *mate) []byte {
	var b []byte
	if !x.shaken {
		x.shaken = true
		b = append(b, c.hello()...)
		if c.r.Intn(20) == 0 {
			b[30] ^= 1
		}
		if c.r.Intn(4) > 0 {
			has := slices.DeleteFunc(c.every(), func(int) bool { return c.r.Intn(5) == 0 })
			b = append(b, wire(c.field(has...))...)
		}
		if c.r.Intn(4) > 0 {
			b = append(b, wire(plainly(api.MsgUnchoke))...)
		}
	}
	for range c.r.Intn(5) {
		b = append(b, wire(c.word(x))...)
	}
	switch c.r.Intn(150) {
	case 0:
		b = append(b, 255, 0, 0, 0)
	case 1:
		b = append(b, 0, 0, 0, 1, 9)
	case 2:
		b = append(b, wire(have(len(c.pieces)))...)
	}
	return b
}

// speak lets a mate say something, cut anywhere.
func (c *crowd) speak(peer int) {
	x := c.mates[peer]
	switch {
	case x == nil:
		c.note(c.bytes(peer, []byte{0, 0, 0, 0}))
		return
	case x.mute && x.shaken:
		c.note(c.bytes(peer, nil))
		return
	}
	x.rest = append(x.rest, c.stream(x)...)
	n := len(x.rest)
	if c.r.Intn(5) == 0 {
		n = c.r.Intn(n + 1)
	}
	b := x.rest[:n]
	x.rest = bytes.Clone(x.rest[n:])
	l := c.bytes(peer, b)
	for _, a := range l {
		if (a.Kind == api.ActDrop || a.Kind == api.ActBan) && a.Peer != peer {
			c.t.Fatalf("bytes of %d closed another connection: %v", peer, a)
		}
	}
	c.note(l)
}

// crash lets both disks lose the same, and starts anew.
func (c *crowd) crash() {
	keep := make([]bool, len(c.d.Pending()))
	for i := range keep {
		keep[i] = c.r.Intn(2) == 0
	}
	torn := c.r.Intn(len(keep)+1) - 1
	cut := c.r.Intn(65)
	wants(c.t, "Crash", c.d.Crash(keep, torn, cut), c.w.Crash(keep, torn, cut))
	clear(c.mates)
	c.note(c.again())
}

// step is one call of some kind.
func (c *crowd) step() {
	peer := c.r.Intn(12)
	switch k := c.r.Intn(100); {
	case k < 14:
		c.note(c.join(peer - c.r.Intn(2)))
	case k < 16:
		c.note(c.leave(peer))
		delete(c.mates, peer)
	case k < 30:
		c.note(c.tick())
	case k < 32:
		c.sync()
	case k < 33 && c.r.Intn(4) == 0:
		c.crash()
	default:
		c.speak(peer)
	}
}

// look holds the files against the metainfo: a complete one has its length and its root, and so its bytes, where no others can have them.
func (c *crowd) look() {
	c.t.Helper()
	for i, b := range c.files {
		got, e := c.s.File(i)
		if !c.p.complete(i) {
			wants(c.t, "File", e, api.ErrLeft)
			continue
		}
		if e != api.OK || len(got) != len(b) || c.sc.Width == 32 && !bytes.Equal(got, b) {
			c.t.Fatalf("File(%d) = %v, %d", i, got, e)
		}
		if root, _ := tree.FileRoot(c.sc, got); len(b) > 0 && root != c.m.Files[i].Root {
			c.t.Fatalf("File(%d) has another root", i)
		}
	}
}

// P19.1 to P19.12: rows of calls of all kinds, at several scales, against the session of the chapter's words.
func TestRows(t *testing.T) {
	r := rand.New(rand.NewSource(1))
	seen, whys, sent := map[int]int{}, map[api.Errno]int{}, map[int]int{}
	alone, found := 0, 0
	add := func(to, from map[int]int) {
		for k, n := range from {
			to[k] += n
		}
	}
	for range 500 {
		c := someCrowd(t, r)
		for range 400 {
			c.step()
		}
		c.look()
		alone += c.p.alone
		found += c.p.found
		add(seen, c.seen)
		add(sent, c.sent)
		for k, n := range c.whys {
			whys[k] += n
		}
	}
	for _, k := range []int{api.ActSend, api.ActDrop, api.ActBan, api.ActPiece, api.ActFile, api.ActFail} {
		if seen[k] < 100 {
			t.Errorf("the rows are too tame: %d acts of the kind %d", seen[k], k)
		}
	}
	for _, e := range []api.Errno{api.ErrLied, api.ErrSlow, api.ErrQuiet, api.ErrBanned, api.ErrCrowd, api.ErrFrame, api.ErrMsgKind, api.ErrPeerInfo, api.ErrPeerIndex} {
		if whys[e] < 20 {
			t.Errorf("the rows are too tame: %d connections closed for %d", whys[e], e)
		}
	}
	for _, k := range []int{-1, 0, 1, 2, 3, 4, 5, 6, 7, 8, 21, 22, 23} {
		if sent[k] < 100 {
			t.Errorf("the rows are too tame: %d messages of the kind %d went out", sent[k], k)
		}
	}
	if alone < 50 || found < 50 {
		t.Errorf("the rows are too tame: %d pieces fetched alone, %d found by their hashes", alone, found)
	}
}
