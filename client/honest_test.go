package client_test

import (
	"bytes"
	"math/rand"
	"slices"
	"testing"

	"torrent/api"
	"torrent/client"
	"torrent/frame"
	"torrent/meta"
)

// twist is what becomes of a frame's body on its way.
type twist func(body []byte) [][]byte

func honest(body []byte) [][]byte { return [][]byte{body} }

// net is a client that knows a link alone, among other clients that have everything, over lines that may twist what those say.
type net struct {
	t      *testing.T
	x      *torrent
	c      *client.Client
	others map[int]*client.Client
	ways   map[int]twist
	on     map[int]bool // who is connected, as the acts tell
	queue  []api.Act    // what is on its way to the client: Data of Peer
}

func newNet(t *testing.T, x *torrent) *net {
	t.Helper()
	n := &net{t: t, x: x, c: x.waiting(t).c, others: map[int]*client.Client{}, ways: map[int]twist{}, on: map[int]bool{}}
	return n
}

// seed lets somebody join that has all pieces.
func (n *net) seed(peer int, way twist) {
	n.t.Helper()
	s, _ := n.x.byText(n.t, n.x.filled(n.t, n.x.every()...))
	n.others[peer], n.ways[peer], n.on[peer] = s.c, way, true
	n.back(peer, s.join(0))
	n.take(n.c.Join(0, peer), peer)
}

// back lays what another client says on the way, twisted.
func (n *net) back(peer int, l []api.Act) {
	for _, a := range l {
		if a.Kind != api.ActSend {
			continue
		}
		b := a.Data
		if bodies, size, e := frame.Split(b); e == api.OK && size == len(b) { // else it is the handshake
			b = nil
			for _, body := range bodies {
				for _, other := range n.ways[peer](body) {
					b = append(b, framed(other)...)
				}
			}
		}
		n.queue = append(n.queue, api.Act{Peer: peer, Data: b})
	}
}

// take brings what the client says to those whom it is for; from is who was heard, or -1.
func (n *net) take(l []api.Act, from int) {
	n.t.Helper()
	for _, a := range l {
		switch a.Kind {
		case api.ActSend:
			if !n.on[a.Peer] {
				n.t.Fatalf("an act for who isn't connected: %s", shown([]api.Act{a}))
			}
			n.back(a.Peer, n.others[a.Peer].Bytes(0, 0, a.Data))
		case api.ActDrop, api.ActBan:
			if from >= 0 && from != a.Peer {
				n.t.Fatalf("bytes of %d closed the connection to %d", from, a.Peer)
			}
			delete(n.on, a.Peer)
			n.others[a.Peer].Leave(0, 0)
		}
	}
}

// run lets so many ticks pass.
func (n *net) run(ticks int) {
	n.t.Helper()
	for range ticks {
		for len(n.queue) > 0 {
			a := n.queue[0]
			n.queue = n.queue[1:]
			if !n.on[a.Peer] {
				continue
			}
			from, was := a.Peer, n.phase()
			l := n.c.Bytes(0, a.Peer, a.Data)
			if was != n.phase() { // at the turn all are heard
				from = -1
			}
			n.take(l, from)
		}
		n.take(n.c.Tick(0), -1)
		for peer := range 9 {
			if n.on[peer] {
				n.back(peer, n.others[peer].Tick(0))
			}
		}
	}
}

func (n *net) phase() int {
	s, _ := n.c.State(0)
	return s.Phase
}

// done fails the test unless all is there.
func (n *net) done() {
	n.t.Helper()
	s, e := n.c.State(0)
	if e != api.OK || s.Phase != api.PhaseRunning || s.Had != len(n.x.pieces) || slices.Contains(s.Done, false) {
		n.t.Fatalf("State = %v, %d", s, e)
	}
	for i, want := range n.x.files {
		if b, e := n.c.File(0, i); e != api.OK || !bytes.Equal(b, want) {
			n.t.Fatalf("File(%d) = %v, %d", i, b, e)
		}
	}
	text, _ := n.c.Text(0)
	if h, e := meta.Infohash(n.x.sc, text); h != n.x.info || e != api.OK {
		n.t.Fatalf("Text = %q", text)
	}
}

// turned is a body with one of its last bytes turned.
func turned(r *rand.Rand, body []byte) []byte {
	body = bytes.Clone(body)
	body[len(body)-1-r.Intn(min(16, len(body)-1))] ^= 1 << r.Intn(8)
	return body
}

// liar turns some of what it says, of one kind or of all.
func liar(r *rand.Rand) twist {
	kind, often := []byte{20, 20, 7, 22, 0}[r.Intn(5)], 1+r.Intn(4)
	return func(body []byte) [][]byte {
		switch {
		case len(body) < 3 || kind != 0 && body[0] != kind || r.Intn(often) > 0:
			return [][]byte{body}
		case r.Intn(5) == 0:
			return nil
		case r.Intn(8) == 0:
			return [][]byte{[]byte("\x14\x00" + wishText(2, 5)), body}
		case r.Intn(8) == 0:
			return [][]byte{body, content(r, r.Intn(20))}
		}
		return [][]byte{turned(r, body)}
	}
}

// P24.15: with one true peer among liars all is there in the end, as it was made; true ones are never closed.
func TestHonestAmongLiars(t *testing.T) {
	r := rand.New(rand.NewSource(51))
	closed := 0
	for range 60 {
		x, ok := build(own, "honest", 64<<r.Intn(3), content(r, r.Intn(1500)), content(r, r.Intn(100)), nil, content(r, r.Intn(700)))
		if !ok {
			t.Fatal("no torrent")
		}
		n := newNet(t, x)
		good := r.Perm(8)[:1+r.Intn(2)]
		for i := range 8 {
			if slices.Contains(good, i) {
				n.seed(i, honest)
			} else {
				n.seed(i, liar(r))
			}
		}
		n.run(200)
		n.done()
		closed += 8 - len(n.on)
		for _, i := range good {
			if !n.on[i] {
				t.Fatalf("%d is honest, and not connected any more", i)
			}
		}
	}
	if closed < 100 {
		t.Errorf("the liars are too tame: %d closed", closed)
	}
}

// P24.15: one who has it by a link gives it on to others.
func TestGivenOn(t *testing.T) {
	x := one(t)
	first := newNet(t, x)
	first.seed(3, honest)
	first.run(30)
	first.done()
	second := newNet(t, x)
	second.others[5], second.ways[5], second.on[5] = first.c, honest, true
	second.back(5, first.c.Join(0, 0))
	second.take(second.c.Join(0, 5), 5)
	second.run(60)
	second.done()
}

// P24.15: the protocol's own scale.
func TestOwnScale(t *testing.T) {
	x, ok := build(api.Scale{Block: 16384, Width: 32}, "own", 32768, some(200000), some(7))
	if !ok {
		t.Fatal("no torrent")
	}
	n := newNet(t, x)
	n.seed(1, honest)
	n.run(30)
	n.done()
}

// P0.3, P24.15: torrents of one client have nothing to do with each other: each says what it says in a client of its own.
func TestTorrentsApart(t *testing.T) {
	r := rand.New(rand.NewSource(52))
	for range 40 {
		all := none(t, own)
		var alone []*single
		for i := range 3 {
			x := made(t, "t"+num(i), content(r, r.Intn(300)), content(r, 10+r.Intn(60)))
			d := x.disk(t)
			alone = append(alone, x.byLink(t, d.Copy()))
			added(t, "AddLink", addLink(all, x.link("by link"), d), i, nil)
		}
		for range 300 {
			n, peer := r.Intn(3), r.Intn(4)
			s := alone[n]
			switch k := r.Intn(12); {
			case k < 2:
				acts(t, "Join", all.Join(n, peer), s.join(peer))
			case k < 3:
				acts(t, "Tick", all.Tick(n), s.ticks(1))
			case k < 4:
				acts(t, "a handshake", all.Bytes(n, peer, s.able()), s.says(peer, s.able()))
			case k < 6:
				b := slices.Concat(ext(0, wishText(3, len(s.dict))), wire(plainly(api.MsgUnchoke)))
				acts(t, "a wish", all.Bytes(n, peer, b), s.says(peer, b))
			default:
				b := ext(1, s.part(r.Intn(len(s.parts()))))
				acts(t, "a part", all.Bytes(n, peer, b), s.says(peer, b))
			}
		}
		for n, s := range alone {
			if x, e := all.State(n); e != api.OK || x.Phase != s.state().Phase || !slices.Equal(x.Peers, s.state().Peers) {
				t.Fatalf("State = %v, %d, want %v", x, e, s.state())
			}
		}
	}
}
