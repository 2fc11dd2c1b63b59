package digest_test

import (
	"bytes"
	"crypto/sha256"
	"encoding/binary"
	"math"
	"testing"

	"torrent/api"
	"torrent/digest"
)

// stateOf folds the whole blocks of a text, from a state on.
func stateOf(state [8]uint32, b []byte) [8]uint32 {
	for ; len(b) >= 64; b = b[64:] {
		state = digest.Compress(state, [64]byte(b))
	}
	return state
}

// midOf is what Mid must answer for a text, by P1.14.
func midOf(b []byte) api.Mid {
	_, first := digest.Table()
	return api.Mid{State: stateOf(first, b), Done: len(b), Tail: b[len(b)-len(b)%64:]}
}

func sameMid(a, b api.Mid) bool {
	return a.State == b.State && a.Done == b.Done && bytes.Equal(a.Tail, b.Tail)
}

// stands fails unless the stream's text is want, as far as its answers tell.
func stands(t *testing.T, s *digest.Stream, want []byte) {
	t.Helper()
	if s.Len() != len(want) {
		t.Fatalf("Len = %d, want %d", s.Len(), len(want))
	}
	if got := s.Sum(); got != api.Hash(sha256.Sum256(want)) {
		t.Fatalf("Sum of %d bytes = %x", len(want), got)
	}
	if got := s.Mid(); !sameMid(got, midOf(want)) {
		t.Fatalf("Mid of %d bytes = %v, want %v", len(want), got, midOf(want))
	}
}

// P1.11: a new stream has no text, and two have nothing to do with each other.
func TestNew(t *testing.T) {
	s, other := digest.New(), digest.New()
	if s == nil || other == nil || s == other {
		t.Fatal("New makes no stream of its own")
	}
	stands(t, s, nil)
	s.Write([]byte("abc"))
	stands(t, other, nil)
	stands(t, digest.New(), nil)
}

// P1.12, P1.14: a text that comes in two or three parts, cut anywhere, asked between them.
func TestWriteInParts(t *testing.T) {
	b := text(200)
	for from := range len(b) + 1 {
		for _, to := range []int{from, from + 1, from + 63, from + 64, from + 65, len(b)} {
			to = min(to, len(b))
			s := digest.New()
			for _, end := range []int{from, to, len(b)} {
				if e := s.Write(b[s.Len():end]); e != api.OK {
					t.Fatalf("Write = %d", e)
				}
				stands(t, s, b[:end])
			}
		}
	}
}

// P1.12: byte by byte, with empty writes between.
func TestWriteBytewise(t *testing.T) {
	b := text(300)
	s := digest.New()
	for i := range b {
		if e := s.Write(nil); e != api.OK {
			t.Fatalf("Write of nothing = %d", e)
		}
		if e := s.Write(b[i : i+1]); e != api.OK {
			t.Fatalf("Write = %d", e)
		}
		s.Write([]byte{})
		stands(t, s, b[:i+1])
	}
}

// P1.12, P1.14: what the document shows.
func TestStreamExample(t *testing.T) {
	s := digest.New()
	s.Write([]byte("a"))
	if s.Sum() != digest.Sum([]byte("a")) {
		t.Error("Sum of a")
	}
	s.Write([]byte("bc"))
	if s.Sum() != digest.Sum([]byte("abc")) || s.Len() != 3 {
		t.Error("Sum and Len of abc")
	}
	_, first := digest.Table()
	if m := s.Mid(); !sameMid(m, api.Mid{State: first, Done: 3, Tail: []byte("abc")}) {
		t.Errorf("Mid of abc = %v", m)
	}
}

// P1.12: the limit, one below it, at it and past it; a refused write changes nothing.
func TestWriteLimit(t *testing.T) {
	for left := range 140 {
		done := api.MaxTaken - left
		m := api.Mid{State: [8]uint32{1, 2, 3}, Done: done, Tail: text(done % 64)}
		s, e := digest.Resume(m)
		if e != api.OK {
			t.Fatalf("Resume = %d", e)
		}
		sum := s.Sum()
		if e := s.Write(make([]byte, left+1)); e != api.ErrCount || !sameMid(s.Mid(), m) || s.Sum() != sum || s.Len() != done {
			t.Errorf("one byte too many behind %d: %d, %v", done, e, s.Mid())
		}
		if e := s.Write(make([]byte, left)); e != api.OK || s.Len() != api.MaxTaken {
			t.Errorf("up to the limit behind %d: %d, Len %d", done, e, s.Len())
		}
		if e := s.Write(nil); e != api.OK {
			t.Errorf("nothing more at the limit: %d", e)
		}
		if e := s.Write([]byte{0}); e != api.ErrCount || s.Len() != api.MaxTaken {
			t.Errorf("one byte more at the limit: %d", e)
		}
	}
}

// P1.13: neither of the two streams sees what the other takes.
func TestFork(t *testing.T) {
	b := text(260)
	for cut := range 130 {
		s := digest.New()
		s.Write(b[:cut])
		f := s.Fork()
		if f == nil || f == s {
			t.Fatal("Fork makes no stream of its own")
		}
		s.Write(b[cut:])
		stands(t, f, b[:cut])
		f.Write([]byte("other"))
		stands(t, s, b)
		stands(t, f, append(bytes.Clone(b[:cut]), "other"...))
	}
}

// P1.15: a resumed stream goes on as the first does, and Mid is what was handed in.
func TestResumeGoesOn(t *testing.T) {
	b := text(260)
	for cut := range 200 {
		s := digest.New()
		s.Write(b[:cut])
		r, e := digest.Resume(s.Mid())
		if e != api.OK || r == nil {
			t.Fatalf("Resume behind %d bytes = %d", cut, e)
		}
		stands(t, r, b[:cut])
		r.Write(b[cut:])
		stands(t, r, b)
		stands(t, s, b[:cut])
	}
}

// P1.15: any state is gone on with; the padding tells the whole length.
func TestResumeFromAnyState(t *testing.T) {
	for _, state := range [][8]uint32{{}, {1, 2, 3, 4, 5, 6, 7, 8}, {math.MaxUint32}} {
		for _, done := range []int{64, 65, 127, 128, 1000, 1 << 40, api.MaxTaken - 100} {
			m := api.Mid{State: state, Done: done, Tail: text(done % 64)}
			s, e := digest.Resume(m)
			if e != api.OK || s == nil {
				t.Fatalf("Resume(%v) = %d", m, e)
			}
			if got := s.Mid(); !sameMid(got, m) || s.Len() != done {
				t.Errorf("Mid = %v, want %v", got, m)
			}
			more := text(100)
			s.Write(more)
			pad, _ := digest.Pad(done + len(more))
			rest := append(append(bytes.Clone(m.Tail), more...), pad...)
			var want []byte
			for _, word := range stateOf(state, rest) {
				want = binary.BigEndian.AppendUint32(want, word)
			}
			if got := s.Sum(); !bytes.Equal(got[:], want) {
				t.Errorf("Sum on from %v = %x, want %x", m, got, want)
			}
		}
	}
}

// P1.15: states that may not be gone on with, and their neighbours that may.
func TestResumeRefused(t *testing.T) {
	_, first := digest.Table()
	for word := range 8 {
		other := first
		other[word]++
		for _, done := range []int{0, 1, 63} {
			refused(t, api.Mid{State: other, Done: done, Tail: make([]byte, done)})
		}
	}
	for _, done := range []int{-1, -3, -63, -64, -128, math.MinInt, api.MaxTaken + 1, api.MaxTaken + 65, math.MaxInt} {
		for _, tail := range []int{0, 1, 61, 63, 64} {
			refused(t, api.Mid{State: first, Done: done, Tail: make([]byte, tail)})
		}
	}
	for _, done := range []int{0, 1, 3, 63, 64, 65, 128, 1000, api.MaxTaken} {
		for tail := range 130 {
			m := api.Mid{State: first, Done: done, Tail: make([]byte, tail)}
			if tail != done%64 {
				refused(t, m)
			} else if s, e := digest.Resume(m); e != api.OK || s == nil {
				t.Errorf("Resume(%v) = %d", m, e)
			}
		}
	}
	refused(t, api.Mid{State: first, Done: 3, Tail: []byte("ab")})
	refused(t, api.Mid{})
}

func refused(t *testing.T, m api.Mid) {
	t.Helper()
	if s, e := digest.Resume(m); e != api.ErrMid || s != nil {
		t.Errorf("Resume(%v) = %v, %d", m, s, e)
	}
}

// P1.16: what is handed to Write and Resume is neither kept nor changed, and a Tail that Mid answered is the caller's.
func TestStreamKeepsNothing(t *testing.T) {
	for n := range 200 {
		b := text(n)
		list, whole := roomy(b)
		s := digest.New()
		s.Write(list)
		spoil(whole)
		stands(t, s, b)
		m := s.Mid()
		spoil(m.Tail[:cap(m.Tail)])
		stands(t, s, b)

		good := midOf(b)
		tail, room := roomy(good.Tail)
		before := bytes.Clone(room)
		good.Tail = tail
		r, _ := digest.Resume(good)
		r.Sum()
		r.Write(text(70)[:64])
		f := r.Fork()
		if !bytes.Equal(room, before) {
			t.Fatalf("Tail of %d bytes, or the room behind it, was written to", len(tail))
		}
		spoil(room)
		want := append(bytes.Clone(b), text(70)[:64]...)
		stands(t, r, want)
		stands(t, f, want)
	}
}

func spoil(b []byte) {
	for i := range b {
		b[i] ^= 0x5a
	}
}

// P1.16: two Mids of one stream share no memory.
func TestMidsApart(t *testing.T) {
	s := digest.New()
	s.Write(text(70))
	m, other := s.Mid(), s.Mid()
	m.Tail = append(m.Tail, 1, 2, 3)
	spoil(m.Tail)
	if !sameMid(other, midOf(text(70))) {
		t.Errorf("Mid = %v", other)
	}
}

// P1.16: every method of a nil stream.
func TestNilStream(t *testing.T) {
	var s *digest.Stream
	for _, b := range [][]byte{nil, {}, []byte("abc")} {
		if e := s.Write(b); e != api.ErrNil {
			t.Errorf("Write = %d", e)
		}
	}
	if s.Sum() != (api.Hash{}) || s.Len() != 0 || s.Fork() != nil {
		t.Error("Sum, Len or Fork of a nil stream is something")
	}
	if !sameMid(s.Mid(), api.Mid{}) {
		t.Errorf("Mid = %v", s.Mid())
	}
}
