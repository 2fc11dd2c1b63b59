package extend_test

import (
	"bytes"
	"math"
	"testing"

	"torrent/api"
	"torrent/extend"
)

// P21.1: each number from 0 to 255 has a body, no other has one; the number is looked at ahead of the length.
func TestBodyNumbers(t *testing.T) {
	for id := -300; id <= 600; id++ {
		b, e := extend.Body(id, []byte("xyz"))
		long, f := extend.Body(id, make([]byte, maxPayload+1))
		if id < 0 || id > 255 {
			if e != api.ErrExtID || f != api.ErrExtID || len(b) != 0 || len(long) != 0 {
				t.Errorf("P21.1: Body(%d) = %v, %d; of a long payload %d", id, b, e, f)
			}
			continue
		}
		if e != api.OK || !bytes.Equal(b, []byte{20, byte(id), 'x', 'y', 'z'}) || f != api.ErrExtSize || len(long) != 0 {
			t.Errorf("P21.1: Body(%d) = %v, %d; of a long payload %d", id, b, e, f)
		}
	}
	for _, id := range []int{math.MinInt, math.MaxInt, 1 << 32, -1 << 32, 1<<32 + 7} {
		if b, e := extend.Body(id, nil); e != api.ErrExtID || len(b) != 0 {
			t.Errorf("P21.1: Body(%d) = %v, %d", id, b, e)
		}
	}
}

// P21.1, P21.2, P21.9: payloads of all lengths up to 300 and about the limit, there and back.
func TestBodyLengths(t *testing.T) {
	lengths := []int{maxPayload - 1, maxPayload, maxPayload + 1, maxPayload + 2, api.MaxFrame + 1, 1 << 20}
	for n := range 300 {
		lengths = append(lengths, n)
	}
	for _, n := range lengths {
		payload := bytes.Repeat([]byte{20, 0, 7}, n/3+1)[:n]
		b, e := extend.Body(n%256, payload)
		if n > maxPayload {
			if e != api.ErrExtSize || len(b) != 0 {
				t.Errorf("P21.1: of %d bytes: %d bytes, %d", n, len(b), e)
			}
			continue
		}
		if e != api.OK || !bytes.Equal(b, append([]byte{20, byte(n)}, payload...)) {
			t.Errorf("P21.1: of %d bytes: %d bytes, %d", n, len(b), e)
		}
		id, p, f := extend.Open(b)
		if f != api.OK || id != n%256 || !bytes.Equal(p, payload) {
			t.Errorf("P21.9: Open of a body of %d bytes = %d, %d bytes, %d", n, id, len(p), f)
		}
	}
}

// P21.2: only two bytes or more, of which the first is 20, are an extended message.
func TestOpenFirstBytes(t *testing.T) {
	for first := range 256 {
		for _, rest := range [][]byte{nil, {0}, {20}, {255, 20, 20}, make([]byte, api.MaxFrame-1), make([]byte, api.MaxFrame)} {
			body := append([]byte{byte(first)}, rest...)
			id, p, e := extend.Open(body)
			want := api.OK
			switch {
			case len(rest) == api.MaxFrame:
				want = api.ErrExtSize
			case first != 20 || len(rest) == 0:
				want = api.ErrExtShort
			}
			if want != api.OK {
				if e != want || id != 0 || len(p) != 0 {
					t.Errorf("P21.2: Open(%d and %d bytes) = %d, %d bytes, %d, want %d", first, len(rest), id, len(p), e, want)
				}
				continue
			}
			if e != api.OK || id != int(rest[0]) || !bytes.Equal(p, rest[1:]) {
				t.Errorf("P21.2: Open(%d and %d bytes) = %d, %d bytes, %d", first, len(rest), id, len(p), e)
			}
			// P21.9
			if b, f := extend.Body(id, p); f != api.OK || !bytes.Equal(b, body) {
				t.Errorf("P21.9: Body of what was opened: %d bytes, %d", len(b), f)
			}
		}
	}
	if id, p, e := extend.Open(nil); e != api.ErrExtShort || id != 0 || len(p) != 0 {
		t.Errorf("P21.2: Open(nothing) = %d, %v, %d", id, p, e)
	}
}
