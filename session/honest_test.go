package session_test

import (
	"bytes"
	"math/rand"
	"slices"
	"testing"

	"torrent/api"
	"torrent/disk"
	"torrent/message"
	"torrent/session"
)

// twist is what becomes of a message on its way.
type twist func(m api.Msg) []api.Msg

// honest lets all pass.
func honest(m api.Msg) []api.Msg { return []api.Msg{m} }

// net is a session among others that have everything, over lines that may twist what those say.
type net struct {
	t      *testing.T
	x      *torrent
	d      *disk.Disk
	s      *session.Session
	others map[int]*session.Session
	ways   map[int]twist
	on     map[int]bool // who is connected, as the acts tell
	asked  int          // how many blocks were asked for
	banned []int
	queue  []api.Act // what is on its way to the session: Data of Peer
}

// newNet is a session on a disk, with nobody there.
func newNet(t *testing.T, x *torrent, d *disk.Disk) *net {
	t.Helper()
	n := &net{t: t, x: x, d: d, others: map[int]*session.Session{}, ways: map[int]twist{}, on: map[int]bool{}}
	n.s, _ = x.start(t, d)
	return n
}

// seed lets somebody join that has all pieces.
func (n *net) seed(peer int, x *torrent, way twist) {
	n.t.Helper()
	s, _ := x.start(n.t, x.filled(n.t, x.every()...))
	n.others[peer], n.ways[peer] = s, way
	n.on[peer] = true
	n.back(peer, s.Join(0))
	n.take(n.s.Join(peer), peer)
}

// back lays what another session says on the way, twisted.
func (n *net) back(peer int, l []api.Act) {
	for _, a := range l {
		if a.Kind != api.ActSend {
			continue
		}
		ms, size, e := message.Unwire(a.Data)
		b := a.Data
		if e == api.OK && size == len(a.Data) { // else it is the handshake
			b = nil
			for _, m := range ms {
				b = append(b, wire(n.ways[peer](m)...)...)
			}
		}
		n.queue = append(n.queue, api.Act{Peer: peer, Data: b})
	}
}

// take brings what the session says to those whom it is for; from is who was heard, or -1.
func (n *net) take(l []api.Act, from int) {
	n.t.Helper()
	for _, a := range l {
		switch a.Kind {
		case api.ActSend:
			if !n.on[a.Peer] {
				n.t.Fatalf("an act for who isn't connected: %v", a)
			}
			if len(a.Data) == 17 && a.Data[4] == api.MsgRequest {
				n.asked++
			}
			n.back(a.Peer, n.others[a.Peer].Bytes(0, a.Data))
		case api.ActDrop, api.ActBan:
			if from >= 0 && from != a.Peer {
				n.t.Fatalf("bytes of %d closed the connection to %d", from, a.Peer)
			}
			if a.Kind == api.ActBan {
				n.banned = append(n.banned, a.Peer)
			}
			delete(n.on, a.Peer)
			n.others[a.Peer].Leave(0)
		}
	}
}

// run lets so many ticks pass.
func (n *net) run(ticks int) {
	n.t.Helper()
	for range ticks {
		for len(n.queue) > 0 {
			a := n.queue[0]
			n.queue = n.queue[1:]
			n.take(n.s.Bytes(a.Peer, a.Data), a.Peer)
		}
		n.take(n.s.Tick(), -1)
		for _, i := range n.s.Peers() {
			n.back(i, n.others[i].Tick())
		}
	}
}

// done fails the test unless all files are there.
func (n *net) done() {
	n.t.Helper()
	for i, want := range n.x.files {
		if b, e := n.s.File(i); e != api.OK || !bytes.Equal(b, want) {
			n.t.Fatalf("File(%d) = %v, %d", i, b, e)
		}
	}
}

// liar turns some blocks, hashes or both.
func liar(r *rand.Rand) twist {
	blocks, hashes := r.Intn(3), r.Intn(2)
	return func(m api.Msg) []api.Msg {
		switch {
		case m.Kind == api.MsgPiece && blocks > 0 && r.Intn(blocks) == 0:
			return []api.Msg{wrong(m)}
		case m.Kind == api.MsgHashes && hashes > 0:
			return []api.Msg{lying(m)}
		}
		return []api.Msg{m}
	}
}

// P19.12: with one honest peer among liars all files come, as they were; honest ones are neither dropped nor banned.
func TestHonestAmongLiars(t *testing.T) {
	r := rand.New(rand.NewSource(31))
	banned := 0
	for range 60 {
		files := [][]byte{content(r, r.Intn(2000)), content(r, r.Intn(100)), nil, content(r, r.Intn(700))}
		pieceLen := 64 << r.Intn(3)
		x, y := bare(t, pieceLen, files...), whole(t, pieceLen, files...)
		n := newNet(t, x, x.disk(t))
		good := r.Perm(8)[:1+r.Intn(3)]
		for i := range 8 {
			if slices.Contains(good, i) {
				n.seed(i, y, honest)
			} else {
				n.seed(i, y, liar(r))
			}
		}
		n.run(200)
		n.done()
		banned += len(n.banned)
		for _, i := range good {
			if !n.on[i] {
				t.Fatalf("%d is honest, and not connected any more", i)
			}
		}
	}
	if banned < 60 {
		t.Errorf("the liars are too tame: %d banned", banned)
	}
}

// P19.12: what was had and synced is not fetched again behind a crash.
func TestGoingOn(t *testing.T) {
	r := rand.New(rand.NewSource(32))
	for range 20 {
		files := [][]byte{content(r, 500+r.Intn(2000)), content(r, r.Intn(700))}
		x, y := bare(t, 128, files...), whole(t, 128, files...)
		n := newNet(t, x, x.disk(t))
		n.seed(3, y, honest)
		n.run(4 + r.Intn(8))
		n.s.Sync()
		left := 0
		for i, b := range x.pieces {
			if n.s.Have()[i/8]>>(7-i%8)&1 == 0 {
				left += (len(b) + 63) / 64
			}
		}
		n.run(r.Intn(4))
		d, _ := disk.Load(n.d.Durable())
		n = newNet(t, x, d)
		n.seed(3, y, honest)
		n.run(60)
		n.done()
		if n.asked != left {
			t.Errorf("%d blocks were asked for, %d were left", n.asked, left)
		}
	}
}

// P19.12: a peer that breaks its stream, however, touches nobody else.
func TestGarbage(t *testing.T) {
	r := rand.New(rand.NewSource(33))
	for range 300 {
		x := whole(t, 128, content(r, 300), content(r, 20))
		w := x.begin(t)
		w.seeds(1, 2)
		w.join(3)
		b := slices.Concat(x.hello(), wire(x.field(x.every()...), plainly(api.MsgUnchoke), x.block(0, 0), x.block(1, 1)), content(r, 200))
		for range r.Intn(3) {
			b[r.Intn(len(b))] ^= 1 << r.Intn(8)
		}
		for len(b) > 0 {
			k := 1 + r.Intn(len(b))
			for _, a := range w.bytes(3, b[:k]) {
				if a.Kind != api.ActSend && a.Kind != api.ActPiece && a.Kind != api.ActFile && a.Kind != api.ActFail && a.Peer != 3 {
					t.Fatalf("another one is touched: %v", a)
				}
			}
			b = b[k:]
		}
		if p := w.s.Peers(); !slices.Equal(p[:2], []int{1, 2}) {
			t.Fatalf("Peers = %v", p)
		}
	}
}
