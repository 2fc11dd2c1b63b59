package peer_test

import (
	"math/rand"
	"slices"
	"testing"

	"torrent/api"
	"torrent/message"
)

func valid(m api.Msg) bool { return message.Valid(m) == api.OK }

// end is one of two connections that talk to each other.
type end struct {
	*watch
	said  []api.Event // what the other one is to hear
	heard []api.Event
	way   []byte // what is on its way to the other one
}

// hello lets an end greet, as the first it sends.
func (x *end) hello(me [20]byte) {
	x.way = append(x.way, x.b.Greet(me)...)
	x.said = append(x.said, api.Event{Hello: true, Peer: me})
}

// tries lets an end say a message, if it may.
func (x *end) tries(m api.Msg) {
	x.t.Helper()
	b, e := x.say(m)
	if e == api.OK {
		x.way = append(x.way, b...)
		x.said = append(x.said, eventsOf([]api.Msg{m})...)
	}
}

// moves brings so many bytes from the one to the other.
func moves(from, to *end, n int) {
	from.t.Helper()
	n = min(n, len(from.way))
	l, e := to.feed(slices.Clone(from.way[:n]))
	if e != api.OK {
		from.t.Fatalf("Feed = %d", e)
	}
	from.way = from.way[n:]
	to.heard = append(to.heard, l...)
}

// P17.8: what two connections for one torrent say is heard at the other end as it was said, and the flags are those of the other side.
func TestTwoSides(t *testing.T) {
	r := rand.New(rand.NewSource(3))
	kinds := map[int]int{}
	for range 400 {
		lens := someLens(r)
		a, b := &end{watch: begin(t, lens...)}, &end{watch: begin(t, lens...)}
		a.hello([20]byte{1})
		b.hello([20]byte{2})
		for range 60 {
			if r.Intn(2) == 0 {
				a, b = b, a
			}
			switch r.Intn(3) {
			case 0:
				moves(a, b, r.Intn(300))
			default:
				a.tries(someMsg(r, lens))
			}
		}
		moves(a, b, len(a.way))
		moves(b, a, len(b.way))
		if !sameEvents(a.said, b.heard) || !sameEvents(b.said, a.heard) {
			t.Fatalf("said %s and %s, heard %s and %s", brief(a.said), brief(b.said), brief(b.heard), brief(a.heard))
		}
		s, o := a.b.State(), b.b.State()
		if s.AmChoking != o.Choking || s.AmInterested != o.Interested || s.Choking != o.AmChoking || s.Interested != o.AmInterested || !s.Shaken || !o.Shaken || s.Gone || o.Gone {
			t.Fatalf("%+v and %+v", s, o)
		}
		for _, v := range slices.Concat(a.heard, b.heard) {
			kinds[v.Msg.Kind]++
		}
	}
	for _, m := range all() {
		if m.Kind != api.MsgOther && kinds[m.Kind] < 50 {
			t.Errorf("the rows are too tame: %d messages of the kind %d", kinds[m.Kind], m.Kind)
		}
	}
}

// P17.8: one side says all that it may ahead of the handshake of the other one.
func TestOneSideFirst(t *testing.T) {
	a, b := &end{watch: begin(t, 130, 64)}, &end{watch: begin(t, 130, 64)}
	a.hello(name)
	for _, m := range all() {
		a.tries(m)
	}
	a.tries(unchoke)
	a.tries(block(0, 128, 2))
	for len(a.way) > 0 {
		moves(a, b, 1)
	}
	if !sameEvents(a.said, b.heard) || len(a.said) < 12 {
		t.Errorf("said %s, heard %s", brief(a.said), brief(b.heard))
	}
}

// P17.5, P17.8: a piece that is said and is no block is what the other side does not take.
func TestNoBlock(t *testing.T) {
	a, b := &end{watch: begin(t, 130, 64)}, &end{watch: begin(t, 130, 64)}
	a.hello(name)
	a.tries(unchoke)
	a.tries(block(0, 100, 30))
	if _, e := b.feed(a.way); e != api.ErrPeerIndex {
		t.Errorf("Feed = %d", e)
	}
}
