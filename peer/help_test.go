package peer_test

import (
	"bytes"
	"encoding/binary"
	"fmt"
	"slices"
	"testing"

	"torrent/api"
	"torrent/frame"
	"torrent/message"
	"torrent/peer"
)

var sc = api.Scale{Block: 64, Width: 32}

var info = api.Hash{1, 2, 3, 18: 19, 19: 20, 20: 21, 31: 32}

var name = [20]byte{113, 19: 7}

// watch holds a connection against the plain one, call by call.
type watch struct {
	t *testing.T
	b *peer.Peer
	p *plain
}

// begin is a new connection, watched.
func begin(t *testing.T, lens ...int) *watch {
	t.Helper()
	return beginAt(t, sc, lens)
}

func beginAt(t *testing.T, sc api.Scale, lens []int) *watch {
	t.Helper()
	b, e := peer.New(sc, info, lens)
	if e != api.OK || b == nil {
		t.Fatalf("New = %v, %d", b, e)
	}
	x := &watch{t, b, &plain{block: sc.Block, info: info, lens: slices.Clone(lens)}}
	x.look()
	return x
}

// met is a new connection over which the peer's handshake has come, watched.
func met(t *testing.T, lens ...int) *watch {
	t.Helper()
	x := begin(t, lens...)
	x.hears(api.OK, shake(), api.Event{Hello: true, Peer: name})
	return x
}

// shake is the peer's handshake.
func shake() []byte {
	return slices.Concat([]byte(sign), []byte{9, 8, 7, 6, 5, 4, 3, 2}, info[:20], name[:])
}

// look holds the state against the plain one.
func (x *watch) look() {
	x.t.Helper()
	if s, want := x.b.State(), x.p.state(); !sameState(s, want) {
		x.t.Fatalf("State = %+v; want %+v", s, want)
	}
}

func sameState(a, b api.PeerState) bool {
	same := bytes.Equal(a.Has, b.Has) && a.Shaken == b.Shaken && a.Gone == b.Gone && a.Why == b.Why
	return same && a.AmChoking == b.AmChoking && a.AmInterested == b.AmInterested && a.Choking == b.Choking && a.Interested == b.Interested
}

func sameMsg(a, b api.Msg) bool {
	numbers := a.Kind == b.Kind && a.Index == b.Index && a.Begin == b.Begin && a.Length == b.Length && a.Base == b.Base && a.Proofs == b.Proofs
	return numbers && a.Root == b.Root && bytes.Equal(a.Data, b.Data) && slices.Equal(a.Hashes, b.Hashes)
}

func sameEvent(a, b api.Event) bool {
	return a.Hello == b.Hello && a.Peer == b.Peer && sameMsg(a.Msg, b.Msg)
}

func sameEvents(a, b []api.Event) bool { return slices.EqualFunc(a, b, sameEvent) }

func (x *watch) feed(b []byte) ([]api.Event, api.Errno) {
	x.t.Helper()
	l, e := x.b.Feed(b)
	if m, f := x.p.feed(b); e != f || !sameEvents(l, m) {
		x.t.Fatalf("Feed(%v) = %s, %d; want %s, %d", cut(b), brief(l), e, brief(m), f)
	}
	x.look()
	return l, e
}

// hears fails the test unless these bytes have this error and just these events.
func (x *watch) hears(want api.Errno, b []byte, events ...api.Event) {
	x.t.Helper()
	if l, e := x.feed(b); e != want || !sameEvents(l, events) {
		x.t.Fatalf("Feed(%v) = %s, %d; want %s, %d", cut(b), brief(l), e, brief(events), want)
	}
}

// takes fails the test unless all these messages come without an error, and are the events.
func (x *watch) takes(ms ...api.Msg) {
	x.t.Helper()
	x.hears(api.OK, wire(ms...), eventsOf(ms)...)
}

// refuses fails the test unless the last message breaks the connection by this error, and those ahead of it are events.
func (x *watch) refuses(want api.Errno, ms ...api.Msg) {
	x.t.Helper()
	x.hears(want, wire(ms...), eventsOf(ms[:len(ms)-1])...)
}

func eventsOf(ms []api.Msg) []api.Event {
	var l []api.Event
	for _, m := range ms {
		if m.Kind != api.MsgOther {
			l = append(l, api.Event{Msg: m})
		}
	}
	return l
}

func (x *watch) say(m api.Msg) ([]byte, api.Errno) {
	x.t.Helper()
	b, e := x.b.Say(m)
	want := x.p.say(m, message.Valid(m))
	var text []byte
	if want == api.OK {
		body, _ := message.Encode(m)
		text, _ = frame.Wrap(body)
	}
	if e != want || !bytes.Equal(b, text) {
		x.t.Fatalf("Say(%s) = %v, %d; want %v, %d", tell(m), cut(b), e, cut(text), want)
	}
	x.look()
	return b, e
}

// says fails the test unless a message of ours has this error.
func (x *watch) says(m api.Msg, want api.Errno) {
	x.t.Helper()
	if _, e := x.say(m); e != want {
		x.t.Fatalf("Say(%s) = %d; want %d", tell(m), e, want)
	}
}

// gone fails the test unless nothing comes and goes any more.
func (x *watch) gone(why api.Errno) {
	x.t.Helper()
	if s := x.b.State(); !s.Gone || s.Why != why {
		x.t.Fatalf("Gone %v, Why %d; want %d", s.Gone, s.Why, why)
	}
	for _, b := range [][]byte{nil, {0}, shake(), wire(choke), {0, 0, 128, 1}, {0, 0, 0, 1, 9}} {
		x.hears(api.ErrPeerGone, b)
	}
	for _, m := range []api.Msg{choke, {Kind: api.MsgAlive}, {Kind: 9}, {Kind: api.MsgRequest}, {Kind: api.MsgHave, Index: -1}} {
		x.says(m, api.ErrPeerGone)
	}
}

var (
	choke      = api.Msg{Kind: api.MsgChoke}
	unchoke    = api.Msg{Kind: api.MsgUnchoke}
	interested = api.Msg{Kind: api.MsgInterested}
	idle       = api.Msg{Kind: api.MsgIdle}
	alive      = api.Msg{Kind: api.MsgAlive}
)

func have(i int) api.Msg { return api.Msg{Kind: api.MsgHave, Index: i} }

func field(b ...byte) api.Msg { return api.Msg{Kind: api.MsgBitfield, Data: b} }

func other(first int, b ...byte) api.Msg {
	return api.Msg{Kind: api.MsgOther, Index: first, Data: b}
}

func request(i, begin, n int) api.Msg {
	return api.Msg{Kind: api.MsgRequest, Index: i, Begin: begin, Length: n}
}

func cancel(i, begin, n int) api.Msg {
	return api.Msg{Kind: api.MsgCancel, Index: i, Begin: begin, Length: n}
}

func block(i, begin, n int) api.Msg {
	return api.Msg{Kind: api.MsgPiece, Index: i, Begin: begin, Data: bytes.Repeat([]byte{byte(n)}, n)}
}

func hashes(kind int, l ...api.Hash) api.Msg {
	return api.Msg{Kind: kind, Root: api.Hash{4}, Base: 1, Index: 2, Length: 4, Proofs: 3, Hashes: l}
}

// wire is the frames of these messages.
func wire(ms ...api.Msg) []byte {
	b, e := message.Wire(ms)
	if e != api.OK {
		panic(e)
	}
	return b
}

// framed is a frame with that body, whatever its length.
func framed(body ...byte) []byte {
	return append(binary.BigEndian.AppendUint32(nil, uint32(len(body))), body...)
}

// cut and brief are the begin of what may be long, to be told.
func cut(b []byte) []byte { return b[:min(len(b), 90)] }

func brief(l []api.Event) string {
	s := "["
	for _, v := range l[:min(len(l), 12)] {
		if v.Hello {
			s += " Hello"
		} else {
			s += " " + tell(v.Msg)
		}
	}
	return s + " ]"
}

func tell(m api.Msg) string {
	return fmt.Sprintf("{%d: %d %d %d, %d bytes, %d hashes}", m.Kind, m.Index, m.Begin, m.Length, len(m.Data), len(m.Hashes))
}
