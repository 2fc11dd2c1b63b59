package frame_test

import (
	"bytes"
	"encoding/binary"
	"math/rand"
	"slices"
	"strings"
	"testing"

	"torrent/api"
	"torrent/frame"
)

const sign = "\x13BitTorrent protocol"

// told is what a stream says when it is read from its begin on.
type told struct {
	met    []api.Hello
	bodies [][]byte
	taken  int // bytes of the handshake and of the whole frames
	waits  int
	fault  api.Errno
}

// read is told of a stream, by Go's own reading of numbers and structs.
func read(hello bool, s []byte) told {
	var a told
	if hello {
		if !strings.HasPrefix(sign, string(s[:min(len(s), 20)])) {
			return told{fault: api.ErrHello}
		}
		if len(s) < 68 {
			return told{waits: len(s)}
		}
		a.met, a.taken = make([]api.Hello, 1), 68
		if n, err := binary.Decode(s[20:68], binary.BigEndian, &a.met[0]); n != 48 || err != nil {
			panic("no handshake")
		}
	}
	for len(s) >= a.taken+4 {
		n := int64(binary.BigEndian.Uint32(s[a.taken:]))
		if n > 32768 {
			a.fault = api.ErrFrame
			return a
		}
		if int64(len(s)-a.taken-4) < n {
			break
		}
		a.bodies = append(a.bodies, s[a.taken+4:][:n])
		a.taken += 4 + int(n)
	}
	a.waits = len(s) - a.taken
	return a
}

// framed is the frame with that body, whatever its length.
func framed(body []byte) []byte {
	return append(binary.BigEndian.AppendUint32(nil, uint32(len(body))), body...)
}

func content(r *rand.Rand, n int) []byte {
	b := make([]byte, n)
	r.Read(b)
	return b
}

func greeting(r *rand.Rand) api.Hello {
	var h api.Hello
	r.Read(h.Flags[:])
	r.Read(h.Info[:])
	r.Read(h.Peer[:])
	return h
}

// shaken is the handshake's text, written out part by part.
func shaken(h api.Hello) []byte {
	return slices.Concat([]byte(sign), h.Flags[:], h.Info[:], h.Peer[:])
}

func same(a, b [][]byte) bool { return slices.EqualFunc(a, b, bytes.Equal) }

// watch is a reader, with all that was pushed into it.
type watch struct {
	t     *testing.T
	r     *frame.Reader
	hello bool
	seen  []byte
}

func begin(t *testing.T, hello bool) *watch {
	t.Helper()
	w := &watch{t: t, r: frame.New(hello), hello: hello}
	if w.r == nil || w.r.Held() != 0 || w.r.Fault() != api.OK {
		t.Fatalf("New(%v): Held %d, Fault %d", hello, w.r.Held(), w.r.Fault())
	}
	return w
}

// push holds what the reader answers against what the stream says with b and did not say without it.
func (w *watch) push(b []byte) ([]api.Hello, [][]byte) {
	w.t.Helper()
	before, after := read(w.hello, w.seen), read(w.hello, append(w.seen, b...))
	want := told{met: after.met[len(before.met):], bodies: after.bodies[len(before.bodies):], fault: after.fault}
	if before.fault != api.OK {
		after, want = before, told{fault: api.ErrBroken}
	} else {
		w.seen = append(w.seen, b...)
	}
	met, bodies, e := w.r.Push(b)
	if e != want.fault || !slices.Equal(met, want.met) || !same(bodies, want.bodies) {
		w.t.Fatalf("hello %v: Push of %v behind %v: %v, %d bodies, %d, want %v, %d bodies, %d", w.hello, short(b), short(w.seen), met, len(bodies), e, want.met, len(want.bodies), want.fault)
	}
	if w.r.Held() != after.waits || w.r.Fault() != after.fault {
		w.t.Fatalf("hello %v: with %v: Held %d, Fault %d, want %d, %d", w.hello, short(w.seen), w.r.Held(), w.r.Fault(), after.waits, after.fault)
	}
	return met, bodies
}

// pushAll pushes a stream that is cut at these places.
func pushAll(t *testing.T, hello bool, s []byte, cuts ...int) {
	t.Helper()
	w := begin(t, hello)
	at := 0
	for _, cut := range append(cuts, len(s)) {
		w.push(s[at:cut])
		at = cut
	}
	w.push(nil)
}

// short is the begin of a text of bytes, to be told.
func short(b []byte) any {
	if len(b) > 80 {
		return append(slices.Clone(b[:80]), "..."...)
	}
	return b
}

// texts are all texts of up to that many bytes out of those.
func texts(n int, out ...byte) [][]byte {
	all := [][]byte{nil}
	for from := 0; n > 0; n-- {
		for to := len(all); from < to; from++ {
			for _, x := range out {
				all = append(all, append(slices.Clone(all[from]), x))
			}
		}
	}
	return all
}

// broken are frames whose number is above MaxFrame: each of its four bytes is the one that makes it so.
var broken = [][]byte{{0, 0, 128, 1}, {0, 0, 129, 0}, {0, 0, 255, 255}, {0, 1, 0, 0}, {1, 0, 0, 0}, {1, 0, 0, 4}, {127, 255, 255, 255}, {128, 0, 0, 0}, {128, 0, 0, 1}, {255, 255, 255, 255}, {255, 255, 255, 252}}
