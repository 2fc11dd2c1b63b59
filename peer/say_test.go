package peer_test

import (
	"bytes"
	"math"
	"slices"
	"testing"

	"torrent/api"
)

// free is a connection over which both sides may ask.
func free(t *testing.T, lens ...int) *watch {
	t.Helper()
	x := met(t, lens...)
	x.takes(unchoke)
	x.says(unchoke, api.OK)
	return x
}

// P17.5: messages of all kinds are said, each as its frame.
func TestSayAll(t *testing.T) {
	x := met(t, 130, 64)
	x.takes(unchoke)
	for _, m := range all() {
		if m.Kind == api.MsgPiece {
			x.says(unchoke, api.OK)
		}
		x.says(m, api.OK)
		if m.Kind != api.MsgBitfield {
			x.says(m, api.OK)
		}
	}
}

// P17.5: the errors of message.Valid come ahead of what may not be said, and change nothing.
func TestSayWrong(t *testing.T) {
	for _, c := range []struct {
		m api.Msg
		e api.Errno
	}{
		{api.Msg{Kind: 9}, api.ErrMsgKind}, {api.Msg{Kind: -2}, api.ErrMsgKind}, {api.Msg{Kind: 64}, api.ErrMsgKind}, {api.Msg{Kind: math.MinInt}, api.ErrMsgKind}, {api.Msg{Kind: math.MaxInt}, api.ErrMsgKind},
		{api.Msg{Kind: api.MsgUnchoke, Index: 1}, api.ErrMsgForeign}, {api.Msg{Kind: api.MsgInterested, Data: []byte{1}}, api.ErrMsgForeign}, {api.Msg{Kind: api.MsgRequest, Index: 9, Data: []byte{1}}, api.ErrMsgForeign},
		{api.Msg{Kind: api.MsgPiece, Length: 4, Data: []byte{1}}, api.ErrMsgForeign}, {api.Msg{Kind: api.MsgBitfield, Index: 1, Data: []byte{192}}, api.ErrMsgForeign},
		{request(0, 0, 0), api.ErrMsgField}, {request(-1, 0, 1), api.ErrMsgField}, {request(0, -1, 1), api.ErrMsgField}, {request(0, 0, 16385), api.ErrMsgField}, {request(math.MinInt, math.MinInt, math.MinInt), api.ErrMsgField}, {cancel(0, math.MaxInt, 64), api.ErrMsgField},
		{have(-1), api.ErrMsgField}, {have(1 << 32), api.ErrMsgField}, {other(63), api.ErrMsgField}, {other(256), api.ErrMsgField},
		{block(9, 9, 0), api.ErrMsgSize}, {block(9, 9, 16385), api.ErrMsgSize}, {field(make([]byte, 8193)...), api.ErrMsgSize}, {other(64, make([]byte, 32768)...), api.ErrMsgSize},
		{have(2), api.ErrPeerSay}, {field(1), api.ErrPeerSay}, {field(), api.ErrPeerSay}, {field(0, 0), api.ErrPeerSay}, {request(0, 0, 64), api.ErrPeerSay}, {block(0, 0, 64), api.ErrPeerSay}, {cancel(2, 0, 1), api.ErrPeerSay},
	} {
		for range 2 {
			x := begin(t, 130, 64)
			x.says(c.m, c.e)
			x.says(field(192), api.OK)
			x = free(t, 130, 64)
			if c.e != api.ErrPeerSay {
				x.says(c.m, c.e)
			}
		}
	}
}

// P17.5: ahead of a bitfield nothing but quiet messages may have been said.
func TestSayOrder(t *testing.T) {
	for _, m := range all() {
		x := begin(t, 130, 64)
		_, e := x.say(m)
		x.says(alive, api.OK)
		x.says(other(64, 1), api.OK)
		want := api.ErrPeerSay
		if e != api.OK || m.Kind == api.MsgAlive || m.Kind == api.MsgOther {
			want = api.OK
		}
		x.says(field(64), want)
		x.says(field(64), api.ErrPeerSay)
	}
}

// P17.5: what the peer has said does not stand in the way of our bitfield, nor what it says of ours in the way of its own.
func TestSayBehindTheirs(t *testing.T) {
	x := met(t, 130, 64)
	x.takes(field(192), unchoke, interested, have(0))
	x.says(field(0), api.OK)
	if has := x.b.State().Has; !bytes.Equal(has, []byte{192}) {
		t.Errorf("Has = %v", has)
	}
}

// P17.5: our bitfields, by the number of pieces.
func TestSayField(t *testing.T) {
	for n := range 18 {
		lens := slices.Repeat([]int{100}, n)
		for k := range (n+7)/8 + 2 {
			for i := range 8*k + 1 {
				b := make([]byte, k)
				if i < 8*k {
					b[i/8] = 128 >> (i % 8)
				}
				want := api.ErrPeerSay
				if k == (n+7)/8 && (i < n || i == 8*k) {
					want = api.OK
				}
				begin(t, lens...).says(field(b...), want)
			}
		}
	}
}

// P17.5: who is choked may not ask, and who chokes gives nothing; cancels may be said at any time.
func TestSayChoked(t *testing.T) {
	for _, it := range []api.Msg{choke, unchoke} {
		for _, we := range []api.Msg{choke, unchoke} {
			x := met(t, 130, 64)
			x.takes(unchoke, it)
			x.says(unchoke, api.OK)
			x.says(we, api.OK)
			for _, c := range []struct {
				m  api.Msg
				no bool
			}{{request(0, 0, 64), it.Kind == api.MsgChoke}, {block(0, 0, 64), we.Kind == api.MsgChoke}, {cancel(0, 0, 64), false}, {have(0), false}} {
				want := api.OK
				if c.no {
					want = api.ErrPeerSay
				}
				x.says(c.m, want)
			}
		}
	}
}

// P17.5: ranges of our requests, cancels and pieces; a piece need be no block here.
func TestSayRanges(t *testing.T) {
	lens := []int{130, 64, 1}
	x := free(t, lens...)
	for i := range len(lens) + 1 {
		size := 0
		if i < len(lens) {
			size = lens[i]
		}
		for begin := range size + 3 {
			for _, n := range []int{1, 2, 30, 63, 64, 65, size - begin, size - begin + 1, 16384} {
				if n < 1 {
					continue
				}
				want := api.ErrPeerSay
				if begin+n <= size && n <= 64 {
					want = api.OK
				}
				x.says(request(i, begin, n), want)
				x.says(cancel(i, begin, n), want)
				x.says(block(i, begin, n), want)
			}
		}
	}
	for _, m := range []api.Msg{request(0, 1<<32-1, 1), request(1<<32-1, 0, 1), cancel(0, 1<<32-64, 64), block(1<<32-1, 1<<32-1, 64), block(0, 1<<32-64, 64), have(3), have(65536), have(1<<32 - 1)} {
		x.says(m, api.ErrPeerSay)
	}
}

// P17.5: our flags, and nothing of the peer's; what changes nothing is said all the same.
func TestSayFlags(t *testing.T) {
	for _, theirs := range [][]api.Msg{nil, {unchoke, interested}} {
		x := met(t, 130, 64)
		x.takes(theirs...)
		for i := range 64 {
			for k := range 3 {
				m := []api.Msg{choke, unchoke, interested, idle}[i>>(2*k)&3]
				x.p.said = nil
				if s := x.b.State(); !s.AmChoking {
					x.p.said = append(x.p.said, unchoke)
				}
				if x.b.State().AmInterested {
					x.p.said = append(x.p.said, interested)
				}
				x.says(m, api.OK)
				s := x.b.State()
				if on := len(theirs) > 0; s.Choking == on || s.Interested != on {
					t.Fatalf("behind %s: %+v", tell(m), s)
				}
			}
		}
	}
}

// P17.5: whether the peer's handshake has come does not matter.
func TestSayUnshaken(t *testing.T) {
	x := begin(t, 130, 64)
	x.hears(api.OK, shake()[:40])
	for _, m := range []api.Msg{field(192), unchoke, interested, block(0, 0, 64), cancel(0, 0, 64), have(1), alive} {
		x.says(m, api.OK)
	}
	x.says(request(0, 0, 64), api.ErrPeerSay)
	x.hears(api.OK, shake()[40:], api.Event{Hello: true, Peer: name})
}
