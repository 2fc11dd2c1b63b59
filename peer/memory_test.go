package peer_test

import (
	"bytes"
	"math/rand"
	"runtime"
	"slices"
	"testing"

	"torrent/api"
	"torrent/message"
	"torrent/peer"
)

// spoil writes over a list, and over its spare room.
func spoil[T any](l []T, with T) {
	l = l[:cap(l)]
	for i := range l {
		l[i] = with
	}
}

// spoilEvents writes over the lists of events, and over the events themselves.
func spoilEvents(l []api.Event) {
	for _, v := range l[:cap(l)] {
		spoil(v.Msg.Data, 0xee)
		spoil(v.Msg.Hashes, api.Hash{0xee})
	}
	spoil(l, api.Event{Hello: true, Msg: api.Msg{Kind: 77}})
}

// copied is a list of events in memory of its own.
func copied(l []api.Event) []api.Event {
	l = slices.Clone(l)
	for i := range l {
		l[i].Msg.Data = slices.Clone(l[i].Msg.Data)
		l[i].Msg.Hashes = slices.Clone(l[i].Msg.Hashes)
	}
	return l
}

// P17.9, P0.4: the lengths that were handed to New are not changed and not kept.
func TestLensAreNotKept(t *testing.T) {
	lens := []int{130, 64, 77, 78}
	p, e := peer.New(sc, info, lens[:2])
	if e != api.OK || !slices.Equal(lens, []int{130, 64, 77, 78}) {
		t.Fatal(e, lens)
	}
	spoil(lens, 1)
	x := &watch{t, p, &plain{block: 64, info: info, lens: []int{130, 64}}}
	x.hears(api.OK, shake(), api.Event{Hello: true, Peer: name})
	x.takes(field(64), block(0, 128, 2), request(1, 0, 64), unchoke)
	x.says(request(0, 66, 64), api.OK)
	x.says(have(2), api.ErrPeerSay)
}

// P17.9, P0.4: bytes that were fed are not changed, their spare room neither, and not kept.
func TestBytesAreNotKept(t *testing.T) {
	r := rand.New(rand.NewSource(4))
	for range 60 {
		x := begin(t, 130, 64)
		b := append(shake(), wire(all()...)...)
		for len(b) > 0 {
			n := min(len(b), r.Intn(60))
			part := append(slices.Clone(b[:n]), 1, 2, 3, 4, 5, 6, 7, 8)
			text := slices.Clone(part)
			l, _ := x.feed(part[:n])
			if !bytes.Equal(part, text) {
				t.Fatalf("Feed has changed %v", text)
			}
			kept := copied(l)
			spoil(part, 0xee)
			if !sameEvents(l, kept) {
				t.Fatal("events have changed with what was fed")
			}
			x.look()
			b = b[n:]
		}
	}
}

// P17.9, P0.4: a message that was said is not changed, the spare room of its lists neither, and not kept.
func TestMessagesAreNotKept(t *testing.T) {
	x := met(t, 130, 64)
	x.takes(unchoke)
	x.says(unchoke, api.OK)
	for _, m := range all()[1:] {
		data, list := append(slices.Clone(m.Data), 7, 8), append(slices.Clone(m.Hashes), api.Hash{7})
		m.Data, m.Hashes = data[:len(m.Data)], list[:len(m.Hashes)]
		text, hashes := slices.Clone(data), slices.Clone(list)
		want := wire(m)
		b, e := x.b.Say(m)
		if e != api.OK || !bytes.Equal(data, text) || !slices.Equal(list, hashes) {
			t.Fatalf("Say(%s): %d, %v", tell(m), e, data)
		}
		spoil(data, 0xee)
		spoil(list, api.Hash{0xee})
		if !bytes.Equal(b, want) {
			t.Fatalf("Say(%s): the bytes have changed with the message", tell(m))
		}
		if m.Kind == api.MsgChoke {
			x.b.Say(unchoke)
		}
	}
}

// P17.9: events share no memory with each other, with those of another call, or with the connection.
func TestEventsAreApart(t *testing.T) {
	x := met(t, 130, 64)
	var ms []api.Msg
	for range 20 {
		ms = append(ms, all()[1:]...)
	}
	ahead, _ := x.feed(wire(field(128), block(0, 64, 64)))
	old := copied(ahead)
	l, e := x.feed(wire(ms...))
	if e != api.OK {
		t.Fatal(e)
	}
	want := copied(l)
	for i := range l {
		spoil(l[i].Msg.Data, 0xee)
		spoil(l[i].Msg.Hashes, api.Hash{0xee})
		_ = append(l[i].Msg.Data, 0xee, 0xee)
		_ = append(l[i].Msg.Hashes, api.Hash{0xee})
		want[i].Msg.Data = bytes.Repeat([]byte{0xee}, len(want[i].Msg.Data))
		want[i].Msg.Hashes = slices.Repeat([]api.Hash{{0xee}}, len(want[i].Msg.Hashes))
		if !sameEvents(l, want) {
			t.Fatalf("the event %d was written over, and another one has changed", i)
		}
	}
	spoilEvents(l)
	if !sameEvents(ahead, old) {
		t.Fatal("an event of another call has changed")
	}
	spoilEvents(ahead)
	x.look()
	x.takes(have(1))
}

// P17.9: what is written into answers is seen in no later one.
func TestAnswersAreNew(t *testing.T) {
	r := rand.New(rand.NewSource(5))
	for range 200 {
		lens := someLens(r)
		x := met(t, lens...)
		for range 25 {
			s := x.b.State()
			spoil(s.Has, 0xee)
			spoil(x.b.Greet([20]byte{}), 0xee)
			one, two := x.b.State(), x.b.State()
			spoil(one.Has, 0xee)
			if !bytes.Equal(two.Has, x.p.state().Has) {
				t.Fatal("two states share memory")
			}
			l, e := x.feed(wire(someMsg(r, lens)))
			spoilEvents(l)
			x.look()
			if e != api.OK {
				break
			}
			b, _ := x.say(someMsg(r, lens))
			spoil(b, 0xee)
			x.look()
		}
	}
}

// P17.9: the bitfield of an event is not that of the state.
func TestFieldIsApart(t *testing.T) {
	x := met(t, 130, 64)
	l, _ := x.feed(wire(field(128)))
	spoilEvents(l)
	x.look()
	before := x.b.State()
	x.takes(have(1))
	if !bytes.Equal(before.Has, []byte{128}) {
		t.Errorf("a state that was answered has changed: %v", before.Has)
	}
}

// P0.3: two connections have nothing to do with each other, and the same calls have the same answers.
func TestApart(t *testing.T) {
	r := rand.New(rand.NewSource(6))
	lens := []int{130, 64, 1}
	a, b := met(t, lens...), met(t, lens...)
	for range 200 {
		m := someMsg(r, lens)
		for m.Kind == api.MsgBitfield {
			m = someMsg(r, lens)
		}
		a.feed(wire(m))
		b.look()
		b.feed(wire(m))
		a.say(m)
		b.look()
		b.say(m)
		a.look()
	}
}

// P0.6, P17.6: a connection that is nil, and one that New has not made.
func TestNil(t *testing.T) {
	for _, p := range []*peer.Peer{nil, new(peer.Peer)} {
		for _, b := range [][]byte{nil, {1}, shake(), {0, 0, 128, 1}} {
			if l, e := p.Feed(b); len(l) != 0 || e != api.ErrNil {
				t.Errorf("Feed = %v, %d", l, e)
			}
		}
		for _, m := range append(all(), api.Msg{Kind: 9}) {
			if b, e := p.Say(m); len(b) != 0 || e != api.ErrNil {
				t.Errorf("Say = %v, %d", b, e)
			}
		}
		if s := p.State(); !sameState(s, api.PeerState{}) {
			t.Errorf("State = %+v", s)
		}
		if b := p.Greet(name); len(b) != 0 {
			t.Errorf("Greet = %v", b)
		}
	}
}

// A connection that is gone holds neither what had come and was not whole nor what it would need to read on.
func TestGoneHoldsLittle(t *testing.T) {
	const n = 64
	lens := slices.Repeat([]int{1}, 65536)
	l := make([]*peer.Peer, n)
	for i := range l {
		l[i], _ = peer.New(sc, info, lens)
		body, _ := message.Encode(other(64, make([]byte, 32000)...))
		b := slices.Concat(shake(), wire(have(70000)), framed(body...)[:31000])
		if _, e := l[i].Feed(b); e != api.ErrPeerIndex {
			t.Fatal(e)
		}
	}
	if held := held(func() { clear(l) }); held > n*20000 {
		t.Errorf("%d bytes for each connection", held/n)
	}
}

// held is how much memory is free when let has let it go.
func held(let func()) int {
	var before, after runtime.MemStats
	runtime.GC()
	runtime.ReadMemStats(&before)
	let()
	runtime.GC()
	runtime.ReadMemStats(&after)
	return int(before.HeapAlloc) - int(after.HeapAlloc)
}
