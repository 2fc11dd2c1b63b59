package frame_test

import (
	"bytes"
	"math/rand"
	"slices"
	"testing"

	"torrent/api"
	"torrent/frame"
)

// P10.1: sign, flags, infohash and name, each at its place.
func TestGreet(t *testing.T) {
	r := rand.New(rand.NewSource(1))
	for _, h := range []api.Hello{{}, greeting(r), greeting(r), {Flags: [8]byte{5: 16}}, {Info: [20]byte{1, 19: 2}}, {Peer: [20]byte{3, 19: 4}}} {
		if b := frame.Greet(h); !bytes.Equal(b, shaken(h)) || len(b) != 68 {
			t.Errorf("Greet(%v) = %v", h, b)
		}
	}
	for i := range 48 {
		var h api.Hello
		switch {
		case i < 8:
			h.Flags[i] = 255
		case i < 28:
			h.Info[i-8] = 255
		default:
			h.Peer[i-28] = 255
		}
		want := append([]byte(sign), make([]byte, 48)...)
		want[20+i] = 255
		if b := frame.Greet(h); !bytes.Equal(b, want) {
			t.Errorf("Greet with the byte %d behind the sign = %v", i, b)
		}
		if g, e := frame.Meet(want); g != h || e != api.OK {
			t.Errorf("Meet with the byte %d behind the sign = %v, %d", i, g, e)
		}
	}
}

// meets fails the test unless Meet answers that handshake, or that error and none.
func meets(t *testing.T, b []byte, h api.Hello, e api.Errno) {
	t.Helper()
	if g, f := frame.Meet(b); g != h || f != e {
		t.Fatalf("Meet(%v) = %v, %d, want %v, %d", short(b), g, f, h, e)
	}
}

// P10.2: the first 68 bytes are the handshake, whatever lies behind them; fewer are too few.
func TestMeet(t *testing.T) {
	r := rand.New(rand.NewSource(2))
	for range 50 {
		h := greeting(r)
		b := append(shaken(h), content(r, 100)...)
		for n := range len(b) + 1 {
			if n < 68 {
				meets(t, b[:n], api.Hello{}, api.ErrShort)
			} else {
				meets(t, b[:n], h, api.OK)
			}
		}
		meets(t, frame.Greet(h), h, api.OK)
	}
	meets(t, nil, api.Hello{}, api.ErrShort)
	meets(t, []byte{}, api.Hello{}, api.ErrShort)
}

// P10.2: each wrong byte of the sign is found at every length that has it, ahead of there being too few.
func TestMeetWrong(t *testing.T) {
	h := greeting(rand.New(rand.NewSource(3)))
	for place := range 20 {
		for x := range 256 {
			b := append(shaken(h), 1, 2)
			if b[place] == byte(x) {
				continue
			}
			b[place] = byte(x)
			for n := range len(b) + 1 {
				if n <= place {
					meets(t, b[:n], api.Hello{}, api.ErrShort)
				} else {
					meets(t, b[:n], api.Hello{}, api.ErrHello)
				}
			}
		}
	}
	for place := 20; place < 68; place++ {
		b := shaken(h)
		b[place] ^= 255
		if g, e := frame.Meet(b); e != api.OK || !bytes.Equal(shaken(g), b) {
			t.Errorf("Meet with another byte at %d = %v, %d", place, g, e)
		}
	}
	meets(t, slices.Repeat([]byte{0}, 68), api.Hello{}, api.ErrHello)
	meets(t, []byte(sign[1:]), api.Hello{}, api.ErrHello)
	meets(t, []byte("\x13bittorrent protocol"), api.Hello{}, api.ErrHello)
}
