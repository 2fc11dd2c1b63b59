package frame

import "torrent/api"

// The parts of a stream that a reader can stand in.
const (
	inNumber = iota
	inBody
	inHello
)

// Reader takes a stream bit by bit.
type Reader struct {
	part  int       // what the next bytes belong to
	size  int       // bytes of the body, if it is one
	held  []byte    // the part's bytes that came so far
	fault api.Errno // why the stream is broken; OK: it is not
}

// New is a reader at the begin of a stream: of a handshake and frames, or of frames alone.
func New(hello bool) *Reader {
	if hello {
		return &Reader{part: inHello}
	}
	return &Reader{part: inNumber}
}

// Push takes the next bytes: the handshake, if these bytes made it whole (else no element), and the bodies of the frames that they made whole.
func (r *Reader) Push(b []byte) ([]api.Hello, [][]byte, api.Errno) {
	if r == nil {
		return nil, nil, api.ErrNil
	}
	if r.fault != api.OK {
		return nil, nil, api.ErrBroken
	}
	var met []api.Hello
	var bodies [][]byte
next:
	for {
		switch {
		case r.part == inHello && !signed(b, len(r.held)):
			r.breakOff(api.ErrHello)
			break next
		case !r.fills(b):
			r.held = append(r.held, b...)
			break next
		case r.part == inHello:
			var text [helloSize]byte
			b = r.move(text[:], b)
			met = append(met, hello(text[:]))
			r.part = inNumber
		case r.part == inNumber:
			var text [numberSize]byte
			b = r.move(text[:], b)
			n := number(text)
			if n > api.MaxFrame {
				r.breakOff(api.ErrFrame)
				break next
			}
			r.part, r.size = inBody, int(n)
		default:
			body := make([]byte, r.size)
			b = r.move(body, b)
			bodies = append(bodies, body)
			r.part = inNumber
		}
	}
	return met, bodies, r.fault
}

// fills tells whether the open part is whole with b.
func (r *Reader) fills(b []byte) bool {
	need := numberSize
	switch r.part {
	case inHello:
		need = helloSize
	case inBody:
		need = r.size
	}
	return len(b) >= need-len(r.held)
}

// move fills the bytes of a whole part out of what is held and of b, and answers the bytes of b that lie behind it.
func (r *Reader) move(part, b []byte) []byte {
	n := copy(part, r.held)
	// The room itself is let go, since a reader keeps no more than what waits.
	r.held = nil
	return b[copy(part[n:], b):]
}

// breakOff breaks the stream for good, and lets go what waits.
func (r *Reader) breakOff(why api.Errno) { *r = Reader{fault: why} }

// Held tells how many bytes wait for more.
func (r *Reader) Held() int {
	if r == nil {
		return 0
	}
	if r.part == inBody {
		// The number of a frame waits with its body.
		return numberSize + len(r.held)
	}
	return len(r.held)
}

// Fault tells why the stream is broken.
func (r *Reader) Fault() api.Errno {
	if r == nil {
		return api.ErrNil
	}
	return r.fault
}
