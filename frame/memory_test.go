package frame_test

import (
	"bytes"
	"math/rand"
	"runtime"
	"slices"
	"testing"

	"torrent/api"
	"torrent/frame"
)

// spoil writes over a list and its spare room.
func spoil(b []byte) {
	b = b[:cap(b)]
	for i := range b {
		b[i] = 0xee
	}
}

// copied is a list of bodies in memory of its own.
func copied(bodies [][]byte) [][]byte {
	var l [][]byte
	for _, b := range bodies {
		l = append(l, bytes.Clone(b))
	}
	return l
}

// apart fails the test if a body that is written over, or appended to, is seen in another one.
func apart(t *testing.T, bodies [][]byte) {
	t.Helper()
	want := copied(bodies)
	for i := range bodies {
		spoil(bodies[i])
		_ = append(bodies[i], 0xee, 0xee, 0xee)
		want[i] = bytes.Repeat([]byte{0xee}, len(want[i]))
		if !same(bodies, want) {
			t.Fatalf("the body %d was written over, and another one has changed", i)
		}
	}
}

// row is a stream of frames with bodies without the byte 0xee.
func row(r *rand.Rand, n int) []byte {
	var s []byte
	for range n {
		s = append(s, framed(bytes.Repeat([]byte{byte(1 + r.Intn(200))}, r.Intn(60)))...)
	}
	return s
}

// P10.9: what is handed in is not changed, its spare room neither, and nothing that was answered hangs on it.
func TestArguments(t *testing.T) {
	r := rand.New(rand.NewSource(30))
	for range 100 {
		s := append(shaken(greeting(r)), row(r, 10)...)
		n := r.Intn(len(s) + 1)
		text := slices.Clone(s)
		h, e := frame.Meet(s[:n])
		f, _ := frame.Wrap(s[:n])
		bodies, taken, _ := frame.Split(s[68:max(n, 68)])
		if !bytes.Equal(s, text) {
			t.Fatalf("changed by Meet, Wrap or Split: %v", s)
		}
		clear(s)
		again, e2 := frame.Meet(text[:n])
		want := read(false, text[68:max(n, 68)])
		if h != again || e != e2 || !bytes.Equal(f, framed(text[:n])) || taken != want.taken || !same(bodies, want.bodies) {
			t.Fatalf("answers have changed with what was handed in: %v", text[:n])
		}
	}
}

// P10.9: a reader neither changes nor keeps what is pushed.
func TestPushed(t *testing.T) {
	r := rand.New(rand.NewSource(31))
	for range 300 {
		s := append(shaken(greeting(r)), row(r, 10)...)
		w := begin(t, true)
		for len(s) > 0 {
			n := min(len(s), r.Intn(100))
			b := append(slices.Clone(s[:n]), content(r, 200)...)
			text := slices.Clone(b)
			met, bodies := w.push(b[:n])
			if !bytes.Equal(b, text) {
				t.Fatalf("Push has changed %v", text)
			}
			kept, keptMet := copied(bodies), slices.Clone(met)
			clear(b[:cap(b)])
			if !same(bodies, kept) || !slices.Equal(met, keptMet) {
				t.Fatal("an answer has changed with what was pushed")
			}
			s = s[n:]
		}
	}
}

// P10.9, P0.5: no two bodies of an answer share memory, nor do those of two answers, and a reader does not hang on them.
func TestAnswers(t *testing.T) {
	r := rand.New(rand.NewSource(32))
	for range 300 {
		s := row(r, 12)
		text := slices.Clone(s)
		first, _, _ := frame.Split(s)
		second, _, _ := frame.Split(s)
		apart(t, first)
		if !bytes.Equal(s, text) || !same(second, read(false, s).bodies) {
			t.Fatal("an answer of Split was written over, and something else has changed")
		}
		w := begin(t, false)
		var all [][]byte
		for at := 0; at < len(s); {
			n := min(len(s)-at, r.Intn(150))
			_, bodies := w.push(s[at : at+n])
			all = append(all, bodies...)
			at += n
		}
		if !same(all, read(false, s).bodies) {
			t.Fatal("bodies have changed by later pushes")
		}
		apart(t, all)
	}
}

// P10.9: bodies and handshakes of a reader that are written over at once are not seen in what it answers later.
func TestSpoiltAnswers(t *testing.T) {
	r := rand.New(rand.NewSource(33))
	for range 300 {
		s := append(shaken(greeting(r)), row(r, 12)...)
		w := begin(t, true)
		for len(s) > 0 {
			n := min(len(s), r.Intn(90))
			met, bodies := w.push(s[:n])
			clear(met[:cap(met)])
			for _, b := range bodies {
				spoil(b)
			}
			for i := range bodies[:cap(bodies)] {
				bodies[:cap(bodies)][i] = []byte{0xee}
			}
			s = s[n:]
		}
	}
}

// P0.5: texts that Greet and Wrap answer are new each time.
func TestTexts(t *testing.T) {
	h := greeting(rand.New(rand.NewSource(34)))
	for range 2 {
		b := frame.Greet(h)
		if !bytes.Equal(b, shaken(h)) {
			t.Errorf("Greet = %v", b)
		}
		spoil(b)
		for _, body := range [][]byte{nil, {1, 2}} {
			f, _ := frame.Wrap(body)
			if !bytes.Equal(f, framed(body)) {
				t.Errorf("Wrap(%v) = %v", body, f)
			}
			spoil(f)
		}
	}
}

// P0.3: two readers have nothing to do with each other.
func TestReadersApart(t *testing.T) {
	r := rand.New(rand.NewSource(35))
	one, other := row(r, 60), append(shaken(greeting(r)), row(r, 60)...)
	a, b := begin(t, false), begin(t, true)
	for at := 0; at < min(len(one), len(other)); at += 7 {
		a.push(one[at:min(at+7, len(one))])
		b.push(other[at:min(at+7, len(other))])
	}
	a.push(broken[0])
	a.push(make([]byte, 40000))
	b.push(nil)
}

// held is how many bytes of memory a hundred readers need, each with those pushes.
func held(pushes ...[]byte) int {
	readers := make([]*frame.Reader, 100)
	before := used()
	for i := range readers {
		readers[i] = frame.New(false)
		for _, b := range pushes {
			readers[i].Push(b)
		}
	}
	after := used()
	runtime.KeepAlive(readers)
	return after - before
}

func used() int {
	var m runtime.MemStats
	runtime.GC()
	runtime.ReadMemStats(&m)
	return int(m.HeapAlloc)
}

// P10.9: a reader holds no more than what waits: not the room of a frame that is to come, nor that of what has gone.
func TestRoom(t *testing.T) {
	long := framed(make([]byte, api.MaxFrame))
	var parts [][]byte
	for i := 0; i < len(long); i += 1000 {
		parts = append(parts, long[i:min(i+1000, len(long))])
	}
	parts = slices.Clip(parts)
	all := append(bytes.Repeat(long, 10), 0, 0, 0)
	for _, c := range []struct {
		name   string
		pushes [][]byte
	}{
		{"nothing", nil}, {"a number of a long frame", [][]byte{long[:4]}}, {"a long piece of whole frames", [][]byte{all}},
		{"a frame in parts", parts}, {"a frame in parts and the next number", append(parts, long[:6])}, {"a broken stream", append(parts, long[:3], []byte{1}, all, all)},
	} {
		if n := held(c.pushes...); n > 100*2000 {
			t.Errorf("behind %s a hundred readers hold %d bytes", c.name, n)
		}
	}
}
