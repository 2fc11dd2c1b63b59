package peer_test

import (
	"bytes"
	"slices"
	"testing"

	"torrent/api"
	"torrent/peer"
)

// pair is the connection of the chapter's examples, for two pieces of 130 and 64 bytes, over which the handshake has come.
func pair(t *testing.T) *watch {
	t.Helper()
	return met(t, 130, 64)
}

// The chapter's example 1: the first state, and what may not be.
func TestFirstOfTheChapter(t *testing.T) {
	x := begin(t, 130, 64)
	if s := x.b.State(); s.Shaken || s.Gone || !s.AmChoking || !s.Choking || !bytes.Equal(s.Has, []byte{0}) {
		t.Errorf("State = %+v", s)
	}
	for _, lens := range [][]int{{0}, {65537}} {
		if p, e := peer.New(sc, info, lens); p != nil || e != api.ErrArg {
			t.Errorf("New(%v) = %v, %d", lens, p, e)
		}
	}
	if s := begin(t).b.State(); len(s.Has) != 0 {
		t.Errorf("Has = %v", s.Has)
	}
}

// The chapter's examples 2 and 3: the handshake, and that of another torrent.
func TestHandshakesOfTheChapter(t *testing.T) {
	x := pair(t)
	if !x.b.State().Shaken {
		t.Error("not shaken")
	}
	x = begin(t, 130, 64)
	x.hears(api.OK, shake()[:30])
	x.hears(api.OK, shake()[30:], api.Event{Hello: true, Peer: name})

	x = begin(t, 130, 64)
	wrong := shake()
	wrong[47]++
	x.hears(api.ErrPeerInfo, wrong)
	x.gone(api.ErrPeerInfo)
}

// The chapter's examples 4 to 8: what is fed behind the handshake, with the kinds of its events.
func TestStreamsOfTheChapter(t *testing.T) {
	for i, c := range []struct {
		b     []byte
		kinds []int
		e     api.Errno
		has   byte
	}{
		{[]byte{0, 0, 0, 2, 5, 192}, []int{api.MsgBitfield}, api.OK, 192},
		{[]byte{0, 0, 0, 2, 5, 192, 0, 0, 0, 2, 5, 64}, []int{api.MsgBitfield}, api.ErrPeerOrder, 192},
		{[]byte{0, 0, 0, 2, 5, 32}, nil, api.ErrPeerField, 0}, {[]byte{0, 0, 0, 1, 5}, nil, api.ErrPeerField, 0},
		{[]byte{0, 0, 0, 0, 0, 0, 0, 2, 5, 128}, []int{api.MsgAlive, api.MsgBitfield}, api.OK, 128},
		{[]byte{0, 0, 0, 1, 1, 0, 0, 0, 2, 5, 128}, []int{api.MsgUnchoke}, api.ErrPeerOrder, 0},
		{[]byte{0, 0, 0, 5, 4, 0, 0, 0, 1}, []int{api.MsgHave}, api.OK, 64}, {[]byte{0, 0, 0, 5, 4, 0, 0, 0, 2}, nil, api.ErrPeerIndex, 0},
		{wire(request(0, 100, 30)), []int{api.MsgRequest}, api.OK, 0}, {wire(request(0, 100, 31)), nil, api.ErrPeerIndex, 0},
		{wire(request(0, 131, 30)), nil, api.ErrPeerIndex, 0}, {wire(request(0, 0, 65)), nil, api.ErrPeerIndex, 0},
		{wire(block(0, 128, 2)), []int{api.MsgPiece}, api.OK, 0}, {wire(block(0, 64, 64)), []int{api.MsgPiece}, api.OK, 0},
		{wire(block(0, 100, 30)), nil, api.ErrPeerIndex, 0}, {wire(block(0, 128, 1)), nil, api.ErrPeerIndex, 0},
		{[]byte{0, 0, 0, 2, 64, 9}, nil, api.OK, 0}, {[]byte{0, 0, 0, 1, 9}, nil, api.ErrMsgKind, 0}, {[]byte{0, 0, 128, 1}, nil, api.ErrFrame, 0},
	} {
		x := pair(t)
		l, e := x.feed(c.b)
		var kinds []int
		for _, v := range l {
			kinds = append(kinds, v.Msg.Kind)
		}
		if s := x.b.State(); e != c.e || !slices.Equal(kinds, c.kinds) || !bytes.Equal(s.Has, []byte{c.has}) {
			t.Errorf("row %d: Feed(%v) = %v, %d, Has %v", i, c.b, kinds, e, s.Has)
		}
	}
}

// gives fails the test unless Say answers so many bytes, or that error.
func (x *watch) gives(m api.Msg, n int, want api.Errno) {
	x.t.Helper()
	if b, e := x.say(m); len(b) != n || e != want {
		x.t.Fatalf("Say(%s) = %d bytes, %d; want %d, %d", tell(m), len(b), e, n, want)
	}
}

// The chapter's examples 9 and 10: what we say.
func TestSaysOfTheChapter(t *testing.T) {
	x := pair(t)
	x.gives(request(0, 0, 64), 0, api.ErrPeerSay)
	x.takes(unchoke)
	x.gives(request(0, 0, 64), 17, api.OK)
	x.gives(request(0, 128, 64), 0, api.ErrPeerSay)
	x.gives(request(0, 0, 0), 0, api.ErrMsgField)

	x = pair(t)
	x.gives(field(192), 6, api.OK)
	x.gives(field(192), 0, api.ErrPeerSay)
	x.gives(unchoke, 5, api.OK)
	if x.b.State().AmChoking {
		t.Error("AmChoking")
	}
	x.gives(block(1, 0, 64), 77, api.OK)
	x.gives(choke, 5, api.OK)
	x.gives(block(1, 0, 64), 0, api.ErrPeerSay)
}
