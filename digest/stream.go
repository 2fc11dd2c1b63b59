package digest

import "torrent/api"

// Stream is a digest that grows with what is written.
type Stream struct {
	state [8]uint32       // behind the whole blocks of the text
	done  int             // bytes of the text
	block [blockSize]byte // the unfinished block: its first done%blockSize bytes count
}

// New is a stream of nothing.
func New() *Stream { return &Stream{state: first} }

// Resume goes on with a digest that was under way.
func Resume(m api.Mid) (*Stream, api.Errno) {
	if m.Done < 0 || m.Done > api.MaxTaken || len(m.Tail) != m.Done%blockSize {
		return nil, api.ErrMid
	}
	if m.Done < blockSize && m.State != first {
		return nil, api.ErrMid
	}
	s := &Stream{state: m.State, done: m.Done}
	copy(s.block[:], m.Tail)
	return s, api.OK
}

// Write takes more bytes.
func (s *Stream) Write(b []byte) api.Errno {
	if s == nil {
		return api.ErrNil
	}
	if len(b) > api.MaxTaken-s.done {
		return api.ErrCount
	}
	open := s.done % blockSize
	s.done += len(b)
	taken := copy(s.block[open:], b)
	if open+taken < blockSize {
		return api.OK
	}
	state, tail := fold(Compress(s.state, s.block), b[taken:])
	s.state = state
	copy(s.block[:], tail)
	return api.OK
}

// Sum is the digest of all that was written.
func (s *Stream) Sum() api.Hash {
	if s == nil {
		return api.Hash{}
	}
	return finish(s.state, s.done, s.tail())
}

// tail is the bytes of the unfinished block, in the stream's own memory.
func (s *Stream) tail() []byte { return s.block[:s.done%blockSize] }

// Len tells how many bytes were written.
func (s *Stream) Len() int {
	if s == nil {
		return 0
	}
	return s.done
}

// Mid answers what Resume goes on with.
func (s *Stream) Mid() api.Mid {
	if s == nil {
		return api.Mid{}
	}
	tail := make([]byte, len(s.tail()))
	copy(tail, s.tail())
	return api.Mid{State: s.state, Done: s.done, Tail: tail}
}

// Fork is a second stream with the same bytes, that goes its own way from now on.
func (s *Stream) Fork() *Stream {
	if s == nil {
		return nil
	}
	fork := *s
	return &fork
}
