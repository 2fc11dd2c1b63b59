package peer_test

import (
	"math/rand"
	"slices"
	"testing"

	"torrent/api"
)

// someLens are lengths of a few pieces.
func someLens(r *rand.Rand) []int {
	var lens []int
	for range r.Intn(12) {
		lens = append(lens, 1+r.Intn(200))
	}
	return lens
}

// someField is a bitfield of n bits.
func someField(r *rand.Rand, n int) []byte {
	b := make([]byte, (n+7)/8)
	for i := range n {
		if r.Intn(2) == 0 {
			b[i/8] |= 128 >> (i % 8)
		}
	}
	return b
}

// someBlock is a block of one of the pieces; the number of bytes, too.
func someBlock(r *rand.Rand, lens []int) (int, int, int) {
	i := r.Intn(len(lens))
	begin := 64 * r.Intn((lens[i]+63)/64)
	return i, begin, min(64, lens[i]-begin)
}

// someRange is a range that lies in the torrent.
func someRange(r *rand.Rand, lens []int) (int, int, int) {
	i := r.Intn(len(lens))
	begin := r.Intn(lens[i])
	return i, begin, 1 + r.Intn(min(64, lens[i]-begin))
}

// someMsg is a message that is legal when it comes, but that a bitfield may stand at the wrong place.
func someMsg(r *rand.Rand, lens []int) api.Msg {
	switch k := r.Intn(16); {
	case k < 6:
		return []api.Msg{choke, unchoke, interested, idle, alive, unchoke}[k]
	case k < 9:
		return hashes(api.MsgHashRequest+k-6, make([]api.Hash, k%2*r.Intn(3))...)
	case k == 9:
		return other(64+r.Intn(192), someField(r, 20)...)
	case k == 10:
		return field(someField(r, len(lens))...)
	case len(lens) == 0:
		return alive
	case k == 11:
		return have(r.Intn(len(lens)))
	case k == 12:
		return request(someRange(r, lens))
	case k == 13:
		return cancel(someRange(r, lens))
	}
	i, begin, n := someBlock(r, lens)
	m := block(i, begin, n)
	r.Read(m.Data)
	return m
}

// bent is a message with a number that is a little off, or much.
func bent(r *rand.Rand, m api.Msg) api.Msg {
	off := []int{-64, -1, 1, 1, 64, 1 << 16, 1 << 32, -1 << 40}[r.Intn(8)]
	switch r.Intn(6) {
	case 0:
		m.Kind += r.Intn(5) - 2
	case 1:
		m.Index += off
	case 2:
		m.Begin += off
	case 3:
		m.Length += off
	default:
		m.Data = slices.Clone(m.Data)
		if len(m.Data) > 0 && off < 0 {
			m.Data = m.Data[:len(m.Data)-1]
		} else {
			m.Data = append(m.Data, byte(off))
		}
	}
	return m
}

// someBytes is what a peer may send next.
func someBytes(r *rand.Rand, x *watch, ill int) []byte {
	m := someMsg(r, x.p.lens)
	b := wire(m)
	if r.Intn(100) < ill {
		if r.Intn(2) == 0 {
			b[r.Intn(len(b))] ^= 1 << r.Intn(8)
		} else if n := bent(r, m); valid(n) {
			b = wire(n)
		}
	}
	return b
}

// first is the begin of what a peer sends: a handshake, and mostly a bitfield.
func first(r *rand.Rand, n int) []byte {
	b := shake()
	if r.Intn(10) == 0 {
		b[r.Intn(68)] ^= 1
	}
	switch r.Intn(12) {
	case 0:
		b = append(b, wire(field(someField(r, n+r.Intn(9))...))...)
	case 1, 2, 3:
		b = append(b, wire(field(someField(r, n)...))...)
	}
	return b
}

// P17.3 to P17.7: rows of calls, held against the plain connection.
func TestRows(t *testing.T) {
	r := rand.New(rand.NewSource(2))
	seen := map[api.Errno]int{}
	for row := range 1500 {
		x := begin(t, someLens(r)...)
		b := first(r, len(x.p.lens))
		for range 30 {
			if r.Intn(3) == 0 {
				m := someMsg(r, x.p.lens)
				if r.Intn(4) == 0 {
					m = bent(r, m)
				}
				_, e := x.say(m)
				seen[e]++
				continue
			}
			b = append(b, someBytes(r, x, row%3*4)...)
			n := r.Intn(len(b) + 1)
			_, e := x.feed(b[:n])
			seen[e]++
			b = b[n:]
		}
		x.feed(b)
	}
	for _, e := range []api.Errno{api.OK, api.ErrHello, api.ErrFrame, api.ErrMsgKind, api.ErrMsgSize, api.ErrMsgField, api.ErrMsgForeign, api.ErrPeerGone, api.ErrPeerInfo, api.ErrPeerOrder, api.ErrPeerField, api.ErrPeerIndex, api.ErrPeerSay} {
		if seen[e] < 20 {
			t.Errorf("the rows are too tame: the error %d came %d times", e, seen[e])
		}
	}
}
