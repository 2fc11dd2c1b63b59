package frame_test

import (
	"math/rand"
	"slices"
	"testing"

	"torrent/api"
	"torrent/frame"
)

// streams are short streams: whole ones, unfinished ones and broken ones, with a handshake or without.
func streams() [][]byte {
	r := rand.New(rand.NewSource(20))
	var frames []byte
	for _, n := range []int{3, 0, 0, 1, 40, 0} {
		frames = append(frames, framed(content(r, n))...)
	}
	wrong := shaken(greeting(r))
	wrong[19] = 'L'
	all := [][]byte{nil, frames, framed(content(r, 9))[:12], wrong, append(slices.Clone(frames), 0, 0, 128, 1, 0, 0, 0, 0), append(slices.Clone(frames), 0, 0)}
	for _, s := range all[:6:6] {
		all = append(all, append(shaken(greeting(r)), s...))
	}
	return all
}

// P10.6, P10.7, P10.8: the stream cut at each place, at each two places, and at every place.
func TestCuts(t *testing.T) {
	for _, s := range streams() {
		for _, hello := range []bool{false, true} {
			var every []int
			for i := range len(s) + 1 {
				for j := i; j <= len(s); j++ {
					pushAll(t, hello, s, i, j)
				}
				every = append(every, i)
			}
			pushAll(t, hello, s)
			pushAll(t, hello, s, every...)
		}
	}
}

// P10.6: a short stream in each way in which it can be cut.
func TestAllCuts(t *testing.T) {
	for _, s := range [][]byte{{0, 0, 0, 2, 7, 8, 0, 0, 0, 0, 0, 0, 0}, {0, 0, 0, 0, 0, 0, 0, 1, 9, 0, 1, 0, 0}, {0, 0, 0, 1, 19, 255, 255, 255, 255, 0, 0, 0, 0}} {
		for ways := range 1 << (len(s) - 1) {
			var cuts []int
			for i := range len(s) - 1 {
				if ways>>i&1 == 1 {
					cuts = append(cuts, i+1)
				}
			}
			pushAll(t, false, s, cuts...)
		}
	}
}

// P10.6 to P10.8: all short streams of bytes of which numbers are made, in one, in two and byte by byte.
func TestShortStreams(t *testing.T) {
	for _, s := range texts(7, 0, 1, 128) {
		var every []int
		for i := range len(s) + 1 {
			pushAll(t, false, s, i)
			every = append(every, i)
		}
		pushAll(t, false, s, every...)
	}
}

// P10.6: streams made at random, now and then with a byte changed, cut at random.
func TestRandomStreams(t *testing.T) {
	r := rand.New(rand.NewSource(21))
	for range 3000 {
		hello := r.Intn(2) == 0
		var s []byte
		if hello {
			s = shaken(greeting(r))
		}
		for range r.Intn(12) {
			s = append(s, framed(content(r, r.Intn(2)*r.Intn(300)))...)
		}
		if len(s) > 0 && r.Intn(2) == 0 {
			s[r.Intn(len(s))] = byte(r.Intn(256))
		}
		w := begin(t, hello)
		for step := 1 + r.Intn(200); len(s) > 0; {
			n := min(len(s), r.Intn(step+1))
			w.push(s[:n])
			s = s[n:]
		}
	}
}

// P10.6, P10.8: the handshake is told once, by the push that makes it whole, and what waits ahead of it is below 68 bytes.
func TestHandshake(t *testing.T) {
	h := greeting(rand.New(rand.NewSource(22)))
	s := append(shaken(h), 0, 0, 0, 1, 7)
	for cut := range len(s) + 1 {
		r := frame.New(true)
		met, _, e := r.Push(s[:cut])
		if whole := cut >= 68; e != api.OK || whole != (len(met) == 1) || whole && met[0] != h || !whole && r.Held() != cut {
			t.Fatalf("with %d bytes: %v, %d, Held %d", cut, met, e, r.Held())
		}
		again, _, e := r.Push(s[cut:])
		if e != api.OK || len(met)+len(again) != 1 || len(again) == 1 && again[0] != h || r.Held() != 0 {
			t.Fatalf("cut at %d: %v, then %v, %d, Held %d", cut, met, again, e, r.Held())
		}
		if more, bodies, e := r.Push(s); e != api.ErrFrame || len(more) != 0 || len(bodies) != 0 {
			t.Fatalf("a second handshake is a frame that is too long: %v, %v, %d", more, bodies, e)
		}
	}
}

// P10.6: a wrong byte of the sign breaks the stream as soon as it is there, whatever lies behind it.
func TestWrongSign(t *testing.T) {
	h := greeting(rand.New(rand.NewSource(23)))
	for place := range 20 {
		s := append(shaken(h), 0, 0, 0, 1, 7)
		s[place]++
		for cut := range len(s) + 1 {
			r := frame.New(true)
			want := api.OK
			if cut > place {
				want = api.ErrHello
			}
			met, bodies, e := r.Push(s[:cut])
			if e != want || len(met) != 0 || len(bodies) != 0 || r.Fault() != want {
				t.Fatalf("byte %d, cut at %d: %v, %v, %d", place, cut, met, bodies, e)
			}
			if want == api.OK {
				met, bodies, e = r.Push(s[cut:])
				if e != api.ErrHello || len(met) != 0 || len(bodies) != 0 || r.Fault() != api.ErrHello || r.Held() != 0 {
					t.Fatalf("byte %d, behind a cut at %d: %v, %v, %d", place, cut, met, bodies, e)
				}
			}
		}
		pushAll(t, false, s)
	}
}

// P10.6, P10.8: the longest frame that may be waits with all but its last byte; one that is longer breaks the stream by its number alone.
func TestLongFrames(t *testing.T) {
	body := content(rand.New(rand.NewSource(24)), 32768)
	s := framed(body)
	for _, hello := range []bool{false, true} {
		w := begin(t, hello)
		if hello {
			w.push(shaken(api.Hello{}))
		}
		w.push(s[:len(s)-1])
		if w.r.Held() != 32771 {
			t.Errorf("Held %d", w.r.Held())
		}
		w.push(append([]byte{s[len(s)-1]}, s[:5]...))
		if w.r.Held() != 5 {
			t.Errorf("Held %d", w.r.Held())
		}
		for _, bad := range broken {
			b := append(slices.Clone(s), bad...)
			pushAll(t, false, b)
			pushAll(t, false, b, len(s)+1, len(s)+2, len(s)+3)
		}
	}
}

// P10.6: the longest frames, byte by byte.
func TestByteByByte(t *testing.T) {
	body := content(rand.New(rand.NewSource(25)), 32768)
	s := framed(body)
	r := frame.New(false)
	for range 20 {
		for i := range s {
			_, bodies, e := r.Push(s[i : i+1])
			if last := i == len(s)-1; e != api.OK || last && !same(bodies, [][]byte{body}) || !last && (len(bodies) != 0 || r.Held() != i+1) {
				t.Fatalf("byte %d: %d bodies, %d, Held %d", i, len(bodies), e, r.Held())
			}
		}
	}
}

// P10.7, P10.8: a broken stream stays broken, and says by what.
func TestBroken(t *testing.T) {
	h := shaken(api.Hello{})
	for _, c := range []struct {
		hello bool
		s     []byte
		why   api.Errno
	}{
		{false, []byte{0, 0, 128, 1}, api.ErrFrame}, {false, []byte{0, 0, 0, 0, 255, 255, 255, 255, 0}, api.ErrFrame}, {false, h, api.ErrFrame},
		{true, []byte{18}, api.ErrHello}, {true, []byte{0, 0, 0, 0}, api.ErrHello}, {true, append(slices.Clone(h), 0, 0, 128, 1), api.ErrFrame},
	} {
		r := frame.New(c.hello)
		if _, _, e := r.Push(c.s); e != c.why {
			t.Fatalf("Push(%v): %d, want %d", c.s, e, c.why)
		}
		for _, b := range [][]byte{nil, {}, {0, 0, 0, 0}, h, {19}, {0, 0, 128, 1}, make([]byte, 100), nil} {
			met, bodies, e := r.Push(b)
			if e != api.ErrBroken || len(met) != 0 || len(bodies) != 0 || r.Held() != 0 || r.Fault() != c.why {
				t.Errorf("Push(%v) behind %v: %v, %v, %d, Held %d, Fault %d", b, c.s, met, bodies, e, r.Held(), r.Fault())
			}
		}
	}
}

// P10.6, P0.5: nothing can be pushed at any place, as nil and as an empty list.
func TestNothing(t *testing.T) {
	s := append(shaken(api.Hello{}), 0, 0, 0, 2, 7, 8, 0, 0, 0, 0)
	w := begin(t, true)
	for i := range s {
		w.push(nil)
		w.push([]byte{})
		w.push(s[i : i+1])
	}
	w.push(nil)
}

// P10.9: a reader that is not there.
func TestNilReader(t *testing.T) {
	var r *frame.Reader
	for _, b := range [][]byte{nil, {0, 0, 0, 0}, {255, 255, 255, 255}} {
		met, bodies, e := r.Push(b)
		if len(met) != 0 || len(bodies) != 0 || e != api.ErrNil || r.Held() != 0 || r.Fault() != api.ErrNil {
			t.Errorf("Push(%v): %v, %v, %d, Held %d, Fault %d", b, met, bodies, e, r.Held(), r.Fault())
		}
	}
}
