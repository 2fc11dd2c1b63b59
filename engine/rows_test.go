package engine_test

import (
	"maps"
	"math/rand"
	"slices"
	"testing"

	"torrent/api"
	"torrent/engine"
	"torrent/message"
	"torrent/proof"
)

// mate is somebody whom the session is connected to, and what it was asked.
type mate struct {
	shaken, liar, mute bool
	asked, queries     []api.Msg
	rest               []byte // what it has said and not sent
}

// crowd writes a script, move by move, that plays a session among random peers.
type crowd struct {
	*plain
	r     *rand.Rand
	mates map[int]*mate
	moves []api.Move
	seen  map[int]int       // acts, by their kinds
	whys  map[api.Errno]int // of those that close a connection
	fakes int               // blocks and hashes that were given in place of others of the same digest
}

func crowdOf(r *rand.Rand, p *plain) *crowd {
	c := &crowd{plain: p, r: r, mates: map[int]*mate{}, seen: map[int]int{}, whys: map[api.Errno]int{}}
	c.note(p.all[0])
	return c
}

// do plays a move and puts it behind the others.
func (c *crowd) do(m api.Move) {
	c.t.Helper()
	if m.Kind == api.MoveCrash {
		clear(c.mates)
	}
	c.moves = append(c.moves, m)
	c.note(c.move(m))
}

// note takes what the session did.
func (c *crowd) note(l []api.Act) {
	for _, a := range l {
		c.seen[a.Kind]++
		switch {
		case a.Kind == api.ActSend && (a.Peer > 0 || !c.shares):
			c.hears(a)
		case a.Kind == api.ActDrop, a.Kind == api.ActBan:
			c.whys[a.Why]++
			if a.Why != api.ErrCrowd && a.Why != api.ErrBanned {
				delete(c.mates, a.Peer)
			}
		}
	}
}

// hears lets a mate know what was said to it.
func (c *crowd) hears(a api.Act) {
	if len(a.Data) == 68 && a.Data[0] == 19 {
		c.mates[a.Peer] = &mate{liar: c.r.Intn(3) == 0, mute: c.r.Intn(6) == 0}
		return
	}
	ms, _, _ := message.Unwire(a.Data)
	m, x := ms[0], c.mates[a.Peer]
	switch m.Kind {
	case api.MsgRequest:
		x.asked = append(x.asked, m)
	case api.MsgCancel:
		x.asked = slices.DeleteFunc(x.asked, func(o api.Msg) bool {
			return o.Index == m.Index && o.Begin == m.Begin && o.Length == m.Length
		})
	case api.MsgHashRequest:
		x.queries = append(x.queries, m)
	}
}

// give is what a mate answers to a request; mostly the block.
func (c *crowd) give(x *mate) api.Msg {
	if len(x.asked) == 0 {
		return plainly(api.MsgAlive)
	}
	i := c.r.Intn(len(x.asked))
	m := c.x.block(x.asked[i].Index, x.asked[i].Begin/c.x.sc.Block)
	x.asked = slices.Delete(x.asked, i, i+1)
	if c.x.sc.Width == 1 && c.r.Intn(3) == 0 {
		if b := twin(c.x.sc, c.r, m.Data); b != nil {
			m.Data = b
			c.fakes++
		}
	} else if x.liar && c.r.Intn(2) == 0 || c.r.Intn(40) == 0 {
		m.Data = content(c.r, len(m.Data))
	}
	return m
}

// prove is what a mate answers to a query; mostly the truth.
func (c *crowd) prove(x *mate) api.Msg {
	if len(x.queries) == 0 {
		return plainly(api.MsgAlive)
	}
	i := c.r.Intn(len(x.queries))
	m := x.queries[i]
	x.queries = slices.Delete(x.queries, i, i+1)
	if c.r.Intn(6) == 0 {
		m.Kind = api.MsgHashReject
		return m
	}
	m.Kind = api.MsgHashes
	q := api.Query{Root: m.Root, Base: m.Base, Index: m.Index, Length: m.Length, Proofs: m.Proofs}
	for _, l := range c.x.m.Layers {
		if l.Root == q.Root {
			m.Hashes, _ = proof.Prove(c.x.sc, q.Base, l.Hashes, q)
		}
	}
	if c.x.sc.Width == 1 && c.r.Intn(3) == 0 {
		m.Hashes = c.forge(q, m.Hashes)
	} else if c.r.Intn(12) == 0 && len(m.Hashes) > 0 {
		m.Hashes[c.r.Intn(len(m.Hashes))][0] ^= 1
	}
	return m
}

// forge is another answer that leads where this one does, if one is found.
func (c *crowd) forge(q api.Query, hashes []api.Hash) []api.Hash {
	for range 2000 {
		l := slices.Clone(hashes)
		l[c.r.Intn(len(l))][0] = byte(c.r.Intn(256))
		if h, _ := proof.Climb(c.x.sc, q, l); h == q.Root && !slices.Equal(l, hashes) {
			c.fakes++
			return l
		}
	}
	return hashes
}

// message is something that a mate may say.
func (c *crowd) message(x *mate) api.Msg {
	r := c.r
	switch k := r.Intn(40); {
	case k < 18:
		return c.give(x)
	case k < 28:
		return c.prove(x)
	case k < 30:
		return plainly([]int{api.MsgInterested, api.MsgIdle, api.MsgAlive}[r.Intn(3)])
	case k < 31:
		return plainly(api.MsgChoke)
	case k < 35:
		return plainly(api.MsgUnchoke)
	case k < 38:
		return api.Msg{Kind: api.MsgHave, Index: r.Intn(len(c.x.pieces))}
	case k < 39:
		return c.x.block(r.Intn(len(c.x.pieces)), 0)
	}
	i := r.Intn(len(c.x.pieces))
	return api.Msg{Kind: api.MsgRequest, Index: i, Length: min(c.x.sc.Block, len(c.x.pieces[i]))}
}

// greeting is what a mate says first.
func (c *crowd) greeting() []byte {
	b := c.x.hello()
	if c.r.Intn(30) == 0 {
		b[c.r.Intn(len(b))] ^= 1
	}
	has := c.x.every()
	if c.r.Intn(3) == 0 {
		has = slices.DeleteFunc(has, func(int) bool { return c.r.Intn(2) == 0 })
	}
	return slices.Concat(b, wire(c.x.field(has...), plainly(api.MsgUnchoke)))
}

// stream is some of what a mate says.
func (c *crowd) stream(x *mate) []byte {
	if !x.shaken {
		x.shaken = true
		x.rest = append(x.rest, c.greeting()...)
	}
	if len(c.x.pieces) > 0 {
		for range c.r.Intn(6) {
			x.rest = append(x.rest, wire(c.message(x))...)
		}
	}
	if c.r.Intn(60) == 0 {
		x.rest = append(x.rest, content(c.r, c.r.Intn(9))...)
	}
	k := len(x.rest)
	if c.r.Intn(3) == 0 {
		k = c.r.Intn(k + 1)
	}
	b := x.rest[:k:k]
	x.rest = x.rest[k:]
	return b
}

// blow is a crash of some kind.
func (c *crowd) blow() api.Move {
	r := c.r
	n := len(c.d.Pending())
	m := api.Move{Kind: api.MoveCrash, Torn: -1 + r.Intn(n+3), Cut: r.Intn(66) - 1}
	likely := r.Intn(5)
	for range r.Intn(n + 3) {
		m.Keep = append(m.Keep, r.Intn(4) < likely)
	}
	return m
}

// step plays something.
func (c *crowd) step() {
	c.t.Helper()
	r := c.r
	peer := c.someone()
	switch k := r.Intn(200); {
	case k < 20:
		c.do(join(peer))
	case k < 22:
		c.do(leave(peer))
	case k < 40:
		c.do(tick())
	case k < 43:
		c.silence()
	case k < 52:
		c.do(syncs())
	case k < 55:
		c.do(fuse(r.Intn(12) - 1))
	case k < 59:
		c.do(c.blow())
	case k < 85 && c.shares:
		c.do(carry())
	case k >= 198:
		c.do(sends(peer, content(r, r.Intn(4))))
	default:
		if x := c.mates[peer]; x != nil && !x.mute {
			c.do(sends(peer, c.stream(x)))
		}
	}
}

// someone is a peer, mostly one that is there.
func (c *crowd) someone() int {
	if l := slices.Sorted(maps.Keys(c.mates)); len(l) > 0 && c.r.Intn(4) > 0 {
		return l[c.r.Intn(len(l))]
	}
	if c.shares {
		return 1 + c.r.Intn(11)
	}
	return c.r.Intn(12)
}

// silence lets time pass, with nothing but the wire's talk ahead of it, and perhaps many coming behind it.
func (c *crowd) silence() {
	r := c.r
	if c.shares {
		for range 1 + r.Intn(5) {
			c.do(tick())
			c.do(carry())
		}
	}
	for range r.Intn(30) {
		c.do(tick())
	}
	if r.Intn(2) == 0 {
		for i := range 9 {
			c.do(join(2 + i))
		}
	}
	for range r.Intn(3) {
		c.do(tick())
	}
}

// play plays some steps.
func (c *crowd) play(n int) {
	c.t.Helper()
	for range n {
		c.step()
	}
}

// P20.2: Run, script by script, against the plain one. P20.4: the number of sectors is nothing to it.
func TestRunRows(t *testing.T) {
	r := rand.New(rand.NewSource(51))
	seen, whys, answers, done, fakes := map[int]int{}, map[api.Errno]int{}, 0, 0, 0
	for range 150 {
		x := randomTorrent(r)
		likely := r.Intn(3)
		text := x.telling(func(int) bool { return r.Intn(2) < likely })
		c := crowdOf(r, plainRun(t, x, text, x.need()))
		c.play(r.Intn(500))
		for _, sectors := range []int{x.need(), x.need() + 1 + r.Intn(50), api.MaxSectors} {
			got, e := engine.Run(x.sc, text, x.info, sectors, c.moves)
			c.same("Run", got, e)
			answers += len(got.Answers)
			for _, d := range got.Done {
				if d {
					done++
				}
			}
		}
		for k, n := range c.seen {
			seen[k] += n
		}
		for k, n := range c.whys {
			whys[k] += n
		}
		fakes += c.fakes
	}
	for k := api.ActSend; k <= api.ActFail; k++ {
		if seen[k] < 100 {
			t.Errorf("too tame: acts %v", seen)
		}
	}
	if answers < 100 || done < 100 || fakes < 100 || whys[api.ErrSlow] < 20 || whys[api.ErrQuiet] < 20 || whys[api.ErrCrowd] < 20 || whys[api.ErrLied] < 20 {
		t.Errorf("too tame: %d answers, %d files, %d fakes, %v", answers, done, fakes, whys)
	}
}

// P20.6: Share, script by script, against the plain one. P20.7: all files are there in the end, or it is shown why not.
func TestShareRows(t *testing.T) {
	r := rand.New(rand.NewSource(52))
	cuts, refuse, rounds, wrong := [2]int{}, 0, 0, 0
	for range 150 {
		x := randomTorrent(r)
		bare := r.Intn(2) == 0
		c := crowdOf(r, plainShare(t, x, bare))
		c.play(r.Intn(400))
		rounds += c.calm()
		got, e := x.share(bare, c.moves...)
		c.same("Share", got, e)
		if !x.isWhole(got) {
			wrong++
			x.excused(t, got)
		}
		cuts[0] += c.cuts[0]
		cuts[1] += c.cuts[1]
		refuse += c.refuse
	}
	if cuts[taker] < 50 || cuts[giver] < 20 || refuse < 20 || rounds < 500 || wrong < 5 {
		t.Errorf("too tame: cuts %v, %d times not laid, %d rounds, %d times with wrong files", cuts, refuse, rounds, wrong)
	}
}
