package message_test

import (
	"bytes"
	"encoding/binary"
	"math/rand"
	"slices"
	"testing"

	"torrent/api"
	"torrent/frame"
	"torrent/message"
)

// P11.5: frames of all bodies in their order; of no message no bytes.
func TestWire(t *testing.T) {
	r := rand.New(rand.NewSource(20))
	for n := range 60 {
		ms := some(r, n)
		if b, e := message.Wire(ms); e != api.OK || !bytes.Equal(b, stream(ms)) {
			t.Errorf("Wire of %d messages = %d bytes, %d", n, len(b), e)
		}
	}
	for _, ms := range [][]api.Msg{nil, {}} {
		if b, e := message.Wire(ms); e != api.OK || len(b) > 0 {
			t.Errorf("Wire(%#v) = %v, %d", ms, b, e)
		}
	}
}

// bad are messages that cannot be sent, one with each error.
var bad = []api.Msg{{Kind: 9, Index: -1}, {Kind: api.MsgHave, Begin: 1, Index: -1}, {Kind: api.MsgRequest}, {Kind: api.MsgPiece}}

// P11.5: the error is that of the first message that has one, wherever it stands.
func TestWireErrors(t *testing.T) {
	r := rand.New(rand.NewSource(21))
	for n := range 5 {
		for _, first := range bad {
			for _, second := range bad {
				ms := slices.Concat(some(r, n), []api.Msg{first}, some(r, n%2), []api.Msg{second}, some(r, 1))
				if b, e := message.Wire(ms); e != judged(first) || len(b) > 0 {
					t.Errorf("%d messages ahead of %v: %v, %d", n, first, b, e)
				}
			}
		}
	}
}

// taken is what Unwire answers, frame by frame.
func taken(b []byte) ([]api.Msg, int, api.Errno) {
	var ms []api.Msg
	for at := 0; ; {
		if len(b)-at < 4 {
			return ms, at, api.OK
		}
		n := int64(binary.BigEndian.Uint32(b[at:]))
		if n > 32768 {
			return ms, at, api.ErrFrame
		}
		if int64(len(b)-at-4) < n {
			return ms, at, api.OK
		}
		m, e := read(b[at+4:][:n])
		if e != api.OK {
			return ms, at, e
		}
		ms = append(ms, m)
		at += 4 + int(n)
	}
}

// unwires fails the test unless Unwire answers what the bytes say.
func unwires(t *testing.T, b []byte) {
	t.Helper()
	want, n, e := taken(b)
	if ms, used, fault := message.Unwire(b); !allAlike(ms, want) || used != n || fault != e {
		t.Fatalf("Unwire(%v, of %d bytes) = %d messages, %d, %d, want %d, %d, %d", b[:min(len(b), 60)], len(b), len(ms), used, fault, len(want), n, e)
	}
}

// P11.6: all short rows of bytes of which numbers and kinds are made.
func TestUnwireShort(t *testing.T) {
	rows := [][]byte{nil}
	for from := 0; from < len(rows); from++ {
		unwires(t, rows[from])
		if len(rows[from]) < 9 {
			for _, x := range []byte{0, 1, 128} {
				rows = append(rows, append(slices.Clone(rows[from]), x))
			}
		}
	}
}

// P11.6: messages ahead of a body that is refused, of a frame that is too long, and of both, in either order.
func TestUnwireErrors(t *testing.T) {
	r := rand.New(rand.NewSource(22))
	long := []byte{0, 0, 128, 1}
	for n := range 5 {
		ahead := some(r, n)
		text := stream(ahead)
		for _, c := range []struct {
			body []byte
			e    api.Errno
		}{
			{[]byte{9}, api.ErrMsgKind}, {[]byte{63, 1}, api.ErrMsgKind}, {[]byte{0, 0}, api.ErrMsgSize}, {make([]byte, 32768), api.ErrMsgSize},
			{append([]byte{6}, make([]byte, 12)...), api.ErrMsgField},
		} {
			for _, behind := range [][]byte{nil, {0}, long, stream(some(r, 2)), append(stream(some(r, 2)), long...), framed([]byte{9}), framed([]byte{1, 1})} {
				b := slices.Concat(text, framed(c.body), behind)
				if ms, used, e := message.Unwire(b); !allAlike(ms, ahead) || used != len(text) || e != c.e {
					t.Errorf("%d messages ahead of %v: %d, %d, %d, want %d, %d", n, c.body[:1], len(ms), used, e, len(text), c.e)
				}
				unwires(t, b)
			}
		}
		for _, behind := range [][]byte{nil, {1}, framed([]byte{9}), text} {
			b := slices.Concat(text, long, behind)
			if ms, used, e := message.Unwire(b); !allAlike(ms, ahead) || used != len(text) || e != api.ErrFrame {
				t.Errorf("%d messages ahead of a frame that is too long: %d, %d, %d", n, len(ms), used, e)
			}
			unwires(t, b)
		}
	}
}

// P11.6: streams of messages with bytes changed, cut off at any place.
func TestUnwireChanged(t *testing.T) {
	r := rand.New(rand.NewSource(23))
	for range 2000 {
		b := stream(some(r, r.Intn(12)))
		for range r.Intn(3) {
			if len(b) > 0 {
				b[r.Intn(len(b))] = byte(r.Intn(256) >> r.Intn(8))
			}
		}
		unwires(t, b)
		for range 5 {
			unwires(t, b[:r.Intn(len(b)+1)])
		}
	}
}

// P11.7: Unwire gives back what Wire wrote, and the same with less than a whole frame behind it.
func TestWireUnwire(t *testing.T) {
	r := rand.New(rand.NewSource(24))
	for n := range 40 {
		ms := some(r, n)
		b, e := message.Wire(ms)
		if e != api.OK {
			t.Fatal(n, e)
		}
		for _, behind := range [][]byte{
			nil, {0}, {255}, {0, 0}, {255, 255}, {0, 0, 0}, {255, 255, 255}, {0, 0, 0, 1}, {0, 0, 0, 2, 9}, {0, 0, 0, 5, 4, 0, 0, 1},
			{0, 0, 128, 0}, append([]byte{0, 0, 128, 0}, make([]byte, 32767)...), append([]byte{0, 0, 64, 9, 7}, make([]byte, 16392-1)...),
		} {
			all := slices.Concat(b, behind)
			if got, used, e := message.Unwire(all); !allAlike(got, ms) || used != len(b) || e != api.OK {
				t.Errorf("%d messages and %d bytes: %d, %d, %d, want %d", n, len(behind), len(got), used, e, len(b))
			}
		}
	}
}

// P11.7: a reader of frames alone answers the bodies of the messages, however their stream is cut.
func TestWireCut(t *testing.T) {
	r := rand.New(rand.NewSource(25))
	for range 300 {
		ms := some(r, r.Intn(20))
		b, e := message.Wire(ms)
		if e != api.OK {
			t.Fatal(e)
		}
		var bodies [][]byte
		reader := frame.New(false)
		most := 1 + r.Intn(200)
		for len(b) > 0 {
			n := min(len(b), r.Intn(most+1))
			_, more, e := reader.Push(b[:n])
			if e != api.OK {
				t.Fatal(e)
			}
			bodies, b = append(bodies, more...), b[n:]
		}
		if len(bodies) != len(ms) {
			t.Fatalf("%d bodies of %d messages", len(bodies), len(ms))
		}
		for i, body := range bodies {
			encodes(t, ms[i], body, api.OK)
			decodes(t, body, ms[i], api.OK)
		}
	}
}
