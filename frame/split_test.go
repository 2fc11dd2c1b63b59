package frame_test

import (
	"bytes"
	"math/rand"
	"slices"
	"testing"

	"torrent/api"
	"torrent/frame"
)

// P10.3: the number, the highest byte first, and the body, up to MaxFrame bytes and no further.
func TestWrap(t *testing.T) {
	r := rand.New(rand.NewSource(10))
	for _, n := range []int{0, 1, 2, 3, 4, 255, 256, 257, 258, 1000, 4096, 16397, 32766, 32767, 32768} {
		body := content(r, n)
		if b, e := frame.Wrap(body); e != api.OK || !bytes.Equal(b, framed(body)) {
			t.Errorf("Wrap of %d bytes = %v, %d", n, short(b), e)
		}
	}
	for _, n := range []int{32769, 32770, 65535, 65536, 1 << 20} {
		if b, e := frame.Wrap(make([]byte, n)); e != api.ErrFrame || len(b) != 0 {
			t.Errorf("Wrap of %d bytes = %d bytes, %d", n, len(b), e)
		}
	}
	for _, body := range [][]byte{nil, {}} {
		if b, e := frame.Wrap(body); e != api.OK || !bytes.Equal(b, make([]byte, 4)) {
			t.Errorf("Wrap(%#v) = %v, %d", body, b, e)
		}
	}
}

// splits fails the test unless Split answers what is told of the bytes.
func splits(t *testing.T, b []byte) {
	t.Helper()
	bodies, taken, e := frame.Split(b)
	if want := read(false, b); e != want.fault || taken != want.taken || !same(bodies, want.bodies) {
		t.Fatalf("Split(%v) = %d bodies, %d, %d, want %d, %d, %d", short(b), len(bodies), taken, e, len(want.bodies), want.taken, want.fault)
	}
}

// P10.4: all short texts of bytes of which numbers are made.
func TestSplit(t *testing.T) {
	for _, b := range texts(9, 0, 1, 128) {
		splits(t, b)
	}
	for _, b := range texts(5, 0, 1, 2, 127, 128, 129, 255) {
		splits(t, b)
	}
}

// P10.4: the number and the body at their limits, at each length of what is there of them.
func TestSplitLimit(t *testing.T) {
	r := rand.New(rand.NewSource(11))
	first := framed([]byte{5, 6})
	for _, size := range []int{32767, 32768} {
		b := slices.Concat(first, framed(content(r, size)))
		for _, n := range []int{6, 7, 8, 9, 10, 11, 1000, len(b) - 2, len(b) - 1, len(b)} {
			splits(t, b[:n])
		}
		splits(t, append(b, b...))
	}
	for _, bad := range broken {
		b := slices.Concat(first, bad, make([]byte, 8))
		for n := range len(b) + 1 {
			splits(t, b[:n])
			splits(t, b[6:max(n, 6)])
		}
		if bodies, taken, e := frame.Split(b); len(bodies) != 1 || taken != 6 || e != api.ErrFrame {
			t.Errorf("Split(%v) = %v, %d, %d", b, bodies, taken, e)
		}
	}
}

// P10.4: many frames, empty ones among them, cut off at any place.
func TestSplitMany(t *testing.T) {
	r := rand.New(rand.NewSource(12))
	for range 200 {
		var b []byte
		for range r.Intn(30) {
			b = append(b, framed(content(r, r.Intn(20)*r.Intn(2)*r.Intn(9)))...)
		}
		for range 20 {
			splits(t, b[:r.Intn(len(b)+1)])
		}
		splits(t, b)
		splits(t, append(b, broken[r.Intn(len(broken))]...))
	}
}

// P10.3, P10.4: Split gives back what Wrap wrapped.
func TestWrapSplit(t *testing.T) {
	r := rand.New(rand.NewSource(13))
	var b []byte
	var want [][]byte
	for n := range 300 {
		body := content(r, n)
		f, e := frame.Wrap(body)
		if e != api.OK {
			t.Fatal(n, e)
		}
		b, want = append(b, f...), append(want, body)
	}
	if bodies, taken, e := frame.Split(b); e != api.OK || taken != len(b) || !same(bodies, want) {
		t.Errorf("%d bodies, %d bytes, %d", len(bodies), taken, e)
	}
}
