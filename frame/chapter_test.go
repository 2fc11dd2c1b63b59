package frame_test

import (
	"bytes"
	"slices"
	"testing"

	"torrent/api"
	"torrent/frame"
)

// The chapter's examples 1 and 2: handshakes.
func TestHandshakesOfTheChapter(t *testing.T) {
	h := api.Hello{Info: [20]byte(slices.Repeat([]byte{1}, 20)), Peer: [20]byte(slices.Repeat([]byte{2}, 20))}
	b := frame.Greet(h)
	if len(b) != 68 || !bytes.Equal(b[:5], []byte{19, 66, 105, 116, 84}) {
		t.Errorf("example 1: Greet = %v", b)
	}
	meets(t, b, h, api.OK)
	meets(t, append(slices.Clone(b), 1, 2, 3), h, api.OK)
	meets(t, nil, api.Hello{}, api.ErrShort)
	meets(t, b[:20], api.Hello{}, api.ErrShort)
	meets(t, []byte{18}, api.Hello{}, api.ErrHello)
	meets(t, append(slices.Clone(b[:19]), b[19]+1), api.Hello{}, api.ErrHello)
	meets(t, b[:67], api.Hello{}, api.ErrShort)
}

// The chapter's example 3: frames.
func TestFramesOfTheChapter(t *testing.T) {
	for _, c := range []struct {
		body, begin []byte
		e           api.Errno
	}{
		{[]byte("ab"), []byte{0, 0, 0, 2, 97, 98}, api.OK}, {nil, []byte{0, 0, 0, 0}, api.OK},
		{make([]byte, 32768), []byte{0, 0, 128, 0}, api.OK}, {make([]byte, 32769), nil, api.ErrFrame},
	} {
		want := 4 + len(c.body)
		if c.e != api.OK {
			want = 0
		}
		if f, e := frame.Wrap(c.body); e != c.e || len(f) != want || !bytes.HasPrefix(f, c.begin) {
			t.Errorf("example 3: Wrap of %d bytes = %v, %d", len(c.body), short(f), e)
		}
	}
}

// The chapter's examples 4, 5 and 6: frames taken off a row of bytes.
func TestSplitsOfTheChapter(t *testing.T) {
	for _, c := range []struct {
		b      []byte
		bodies [][]byte
		taken  int
		e      api.Errno
	}{
		{[]byte{0, 0, 0, 1, 5, 0, 0, 0, 0, 0, 0}, [][]byte{{5}, {}}, 9, api.OK}, {nil, nil, 0, api.OK},
		{[]byte{0, 0, 0, 1, 5, 0, 0, 128, 1}, [][]byte{{5}}, 5, api.ErrFrame}, {[]byte{0, 0, 0, 1, 5, 0, 0, 128}, [][]byte{{5}}, 5, api.OK},
		{[]byte{255, 255, 255, 255}, nil, 0, api.ErrFrame},
	} {
		bodies, taken, e := frame.Split(c.b)
		if !same(bodies, c.bodies) || taken != c.taken || e != c.e {
			t.Errorf("Split(%v) = %v, %d, %d", c.b, bodies, taken, e)
		}
	}
}

// step is a push of the chapter's examples, with what is answered then.
type step struct {
	b      []byte
	met    int
	bodies [][]byte
	e      api.Errno
	held   int
	fault  api.Errno
}

// The chapter's examples 7 to 10: readers.
func TestReadersOfTheChapter(t *testing.T) {
	h := api.Hello{Flags: [8]byte{7: 1}}
	b := frame.Greet(h)
	for i, c := range [][]step{
		{{[]byte{0, 0}, 0, nil, api.OK, 2, api.OK}, {[]byte{0, 2, 7}, 0, nil, api.OK, 5, api.OK}, {[]byte{8, 0}, 0, [][]byte{{7, 8}}, api.OK, 1, api.OK}},
		{{b[:20], 0, nil, api.OK, 20, api.OK}, {slices.Concat(b[20:], make([]byte, 4)), 1, [][]byte{{}}, api.OK, 0, api.OK}},
		{{[]byte{19, 67}, 0, nil, api.ErrHello, 0, api.ErrHello}, {b, 0, nil, api.ErrBroken, 0, api.ErrHello}},
		{{[]byte{0, 0, 0, 1, 9, 0, 1, 0, 0, 3}, 0, [][]byte{{9}}, api.ErrFrame, 0, api.ErrFrame}},
	} {
		r := frame.New(i == 1 || i == 2)
		for _, s := range c {
			met, bodies, e := r.Push(s.b)
			if len(met) != s.met || s.met == 1 && met[0] != h || !same(bodies, s.bodies) || e != s.e || r.Held() != s.held || r.Fault() != s.fault {
				t.Errorf("example %d: Push(%v) = %v, %v, %d, Held %d, Fault %d", i+7, s.b, met, bodies, e, r.Held(), r.Fault())
			}
		}
	}
}
