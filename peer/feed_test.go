package peer_test

import (
	"bytes"
	"slices"
	"testing"

	"torrent/api"
)

// P17.3: the infohash is held against its first 20 bytes, each of them; all else of a handshake may be as it likes.
func TestHandshake(t *testing.T) {
	for i := range 68 {
		b := shake()
		b[i] ^= 129
		x := begin(t, 130, 64)
		b = append(b, wire(unchoke)...)
		switch {
		case i < 20:
			x.hears(api.ErrHello, b)
			x.gone(api.ErrHello)
		case i >= 28 && i < 48:
			x.hears(api.ErrPeerInfo, b)
			x.gone(api.ErrPeerInfo)
		default:
			x.hears(api.OK, b, api.Event{Hello: true, Peer: [20]byte(b[48:68])}, api.Event{Msg: unchoke})
		}
		if s := x.b.State(); s.Shaken != !s.Gone {
			t.Errorf("byte %d: %+v", i, s)
		}
	}
}

// P17.3: an error of the handshake counts ahead of what is wrong behind it.
func TestFirstErrorIsTheHandshakes(t *testing.T) {
	for _, b := range [][]byte{{0, 0, 128, 1}, {0, 0, 0, 1, 9}, wire(have(9)), wire(choke, field(0))} {
		x := begin(t, 130, 64)
		wrong := shake()
		wrong[28]++
		x.hears(api.ErrPeerInfo, append(wrong, b...))
		x.gone(api.ErrPeerInfo)
	}
	x := begin(t, 130, 64)
	x.hears(api.ErrHello, append([]byte{19, 'b'}, shake()...))
	x.gone(api.ErrHello)
}

// wrong are streams that break a connection, whatever lies behind them, with the error.
var wrong = []struct {
	b []byte
	e api.Errno
}{
	{[]byte{0, 0, 128, 1}, api.ErrFrame}, {[]byte{255, 255, 255, 255}, api.ErrFrame},
	{framed(9), api.ErrMsgKind}, {framed(63, 1, 2), api.ErrMsgKind}, {framed(20), api.ErrMsgKind},
	{framed(0, 0), api.ErrMsgSize}, {framed(4, 0, 0, 0), api.ErrMsgSize}, {framed(7, 0, 0, 0, 0, 0, 0, 0, 0), api.ErrMsgSize}, {framed(make([]byte, 32768)...), api.ErrMsgSize},
	{framed(6, 0, 0, 0, 0, 0, 0, 0, 0, 0, 0, 0, 0), api.ErrMsgField}, {framed(8, 0, 0, 0, 9, 0, 0, 0, 0, 0, 0, 64, 1), api.ErrMsgField},
	{wire(have(2)), api.ErrPeerIndex}, {wire(block(0, 1, 64)), api.ErrPeerIndex}, {wire(request(2, 0, 1)), api.ErrPeerIndex}, {wire(cancel(0, 0, 65)), api.ErrPeerIndex},
	{wire(choke, field(0)), api.ErrPeerOrder}, {wire(field(1)), api.ErrPeerField},
}

// P17.3: the first error counts: what lies ahead of it is answered and has its effect, what lies behind it is let go.
func TestFirstError(t *testing.T) {
	for _, c := range wrong {
		for _, d := range wrong {
			if bytes.Equal(c.b, wire(field(1))) {
				met(t, 130, 64).hears(c.e, slices.Concat(c.b, d.b, wire(unchoke)))
				continue
			}
			x := met(t, 130, 64)
			ahead := []api.Msg{field(128), unchoke, alive, other(70), interested, have(1)}
			l, e := x.feed(slices.Concat(wire(ahead...), c.b, d.b, wire(choke, idle)))
			want := eventsOf(ahead)
			if c.e == api.ErrPeerOrder {
				want = append(want, api.Event{Msg: choke})
			}
			if e != c.e || !sameEvents(l, want) {
				t.Errorf("%v: %s, %d", cut(c.b), brief(l), e)
			}
			s := x.b.State()
			if !s.Shaken || s.Choking != (c.e == api.ErrPeerOrder) || !s.Interested || !s.AmChoking || s.AmInterested || !bytes.Equal(s.Has, []byte{192}) {
				t.Errorf("%v: the state behind it: %+v", cut(c.b), s)
			}
			x.gone(c.e)
		}
	}
}

// P17.6: a connection that is gone keeps what we have said, too.
func TestGoneKeeps(t *testing.T) {
	x := met(t, 130, 64)
	x.says(unchoke, api.OK)
	x.says(interested, api.OK)
	x.takes(field(64), interested, unchoke)
	x.hears(api.ErrFrame, []byte{1, 0, 0, 0})
	if s := x.b.State(); s.AmChoking || !s.AmInterested || s.Choking || !s.Interested || !bytes.Equal(s.Has, []byte{64}) || !s.Shaken {
		t.Errorf("%+v", s)
	}
	x.gone(api.ErrFrame)
}

// P17.3: nothing comes of nothing, and a part of a frame waits.
func TestWaits(t *testing.T) {
	x := begin(t, 130, 64)
	x.hears(api.OK, nil)
	x.hears(api.OK, []byte{})
	b := append(shake(), wire(have(1))...)
	for i := range b {
		l, e := x.feed(b[i : i+1])
		if want := i == 67 || i == len(b)-1; e != api.OK || (len(l) == 1) != want {
			t.Errorf("byte %d: %s, %d", i, brief(l), e)
		}
		x.hears(api.OK, nil)
	}
}

// P17.3: a bitfield of just the right bits, for each number of pieces.
func TestField(t *testing.T) {
	for n := range 26 {
		lens := slices.Repeat([]int{100}, n)
		size := (n + 7) / 8
		for k := range size + 3 {
			x := met(t, lens...)
			if k == size {
				x.takes(field(make([]byte, k)...))
			} else {
				x.refuses(api.ErrPeerField, field(make([]byte, k)...))
				x.gone(api.ErrPeerField)
			}
		}
		for i := range 8 * size {
			b := make([]byte, size)
			b[i/8] = 128 >> (i % 8)
			x := met(t, lens...)
			if i >= n {
				x.refuses(api.ErrPeerField, field(b...))
				continue
			}
			x.takes(field(b...))
			if has := x.b.State().Has; !bytes.Equal(has, b) {
				t.Errorf("%d pieces: Has = %v; want %v", n, has, b)
			}
		}
	}
}

// all are messages of all kinds that are legal for pieces of 130 and 64 bytes, if the first one comes first.
func all() []api.Msg {
	return []api.Msg{
		field(128), alive, choke, unchoke, interested, idle, have(1), request(0, 100, 30), block(0, 128, 2), cancel(1, 63, 1),
		hashes(api.MsgHashRequest), hashes(api.MsgHashes, api.Hash{1}, api.Hash{2}), hashes(api.MsgHashReject), other(64), other(255, 1, 2),
	}
}

// P17.3: ahead of a bitfield nothing but quiet messages may come, and the order counts ahead of the field itself.
func TestOrder(t *testing.T) {
	for _, m := range all() {
		for _, f := range []api.Msg{field(64), field(1), field(), field(0, 0)} {
			x := met(t, 130, 64)
			want := api.ErrPeerField
			if quiet := m.Kind == api.MsgAlive || m.Kind == api.MsgOther; !quiet {
				want = api.ErrPeerOrder
			} else if sameMsg(f, field(64)) {
				x.takes(alive, m, other(64), m, f, m)
				continue
			}
			x.takes(alive, other(99, 5))
			x.takes(m)
			x.refuses(want, alive, other(99, 5), f)
			x.gone(want)
		}
	}
}

// P17.3: a bitfield that we have said does not stand in the way of one that comes, nor the other way round.
func TestOrdersApart(t *testing.T) {
	x := met(t, 130, 64)
	x.says(field(128), api.OK)
	x.says(unchoke, api.OK)
	x.takes(field(64))
	x = met(t, 130, 64)
	x.takes(field(64), choke)
	x.says(field(128), api.OK)
}

// P17.3, P17.4: messages of all kinds, each an event but those that nobody knows.
func TestAllKinds(t *testing.T) {
	x := met(t, 130, 64)
	x.takes(all()...)
	for _, m := range all()[1:] {
		x.takes(m, m)
	}
	for first := 64; first < 256; first++ {
		x.hears(api.OK, framed(byte(first)))
		x.hears(api.OK, framed(byte(first), 1, 2, 3))
	}
	x.hears(api.OK, framed(slices.Repeat([]byte{64}, 32768)...))
	x.hears(api.OK, nil)
}

// P17.3: a have of each piece, and of what is none.
func TestHave(t *testing.T) {
	for _, n := range []int{1, 7, 8, 9, 30} {
		x := met(t, slices.Repeat([]int{1}, n)...)
		for i := range n {
			j := i * 7 % n
			x.takes(have(j), have(j))
			if b := x.b.State().Has; b[j/8]&(128>>(j%8)) == 0 {
				t.Fatalf("%d pieces: %d is not had: %v", n, j, b)
			}
		}
		for _, i := range []int{n, n + 1, 65535, 65536, 1 << 31, 1<<32 - 1} {
			y := met(t, slices.Repeat([]int{1}, n)...)
			y.refuses(api.ErrPeerIndex, have(n-1), have(i))
			y.gone(api.ErrPeerIndex)
		}
	}
}

// P17.3: ranges of requests and cancels, all small ones, and blocks, all small ones.
func TestRanges(t *testing.T) {
	lens := []int{130, 64, 1, 128, 63, 200}
	x := met(t, lens...)
	holds := func(m api.Msg, legal bool) {
		t.Helper()
		if legal {
			// Without this the plain connection would read an ever longer stream.
			x.p.came = x.p.came[:68]
			x.p.told = 1
			x.hears(api.OK, wire(m), api.Event{Msg: m})
			return
		}
		y := met(t, lens...)
		y.refuses(api.ErrPeerIndex, m)
	}
	for i := range len(lens) + 2 {
		size := 0
		if i < len(lens) {
			size = lens[i]
		}
		for begin := range size + 3 {
			for _, n := range []int{1, 2, 8, 30, 62, 63, 64, 65, size - begin - 1, size - begin, size - begin + 1, size % 64, 16384} {
				if n < 1 {
					continue
				}
				in := begin+n <= size && n <= 64
				holds(request(i, begin, n), in)
				holds(cancel(i, begin, n), in)
				holds(block(i, begin, n), in && begin%64 == 0 && (n == 64 || begin+n == size))
			}
		}
		for _, begin := range []int{size + 64, 1 << 16, 1 << 31, 1<<32 - 64, 1<<32 - 1} {
			for _, n := range []int{1, 63, 64, 65} {
				holds(request(i, begin, n), false)
				holds(cancel(i, begin, n), false)
				holds(block(i, begin, n), false)
			}
		}
	}
	for _, i := range []int{6, 65536, 1 << 31, 1<<32 - 1} {
		holds(request(i, 0, 1), false)
		holds(cancel(i, 0, 64), false)
		holds(block(i, 0, 64), false)
	}
}

// P17.3: the blocks of a piece at each scale, the longest ones among them.
func TestScalesOfBlocks(t *testing.T) {
	for b := 64; b <= 16384; b *= 2 {
		sc := api.Scale{Block: b, Width: 1}
		lens := []int{1024 * b, 2*b + 1, b}
		for _, c := range []struct {
			m     api.Msg
			legal bool
		}{
			{block(0, 0, b), true}, {block(0, 1023*b, b), true}, {block(0, 1023*b, b-1), false}, {block(0, 1024*b, b), false}, {block(0, 64*b, b/2), false},
			{block(1, 2*b, 1), true}, {block(1, 2*b, 2), false}, {block(1, b, b), true}, {block(1, b+1, b), false}, {block(2, 0, b), true}, {block(2, 0, b/2), false}, {block(2, b/2, b/2), false},
			{request(0, 1023*b, b), true}, {request(0, 1023*b+1, b), false}, {request(1, b+1, b), true}, {request(1, b+2, b), false}, {request(2, b/2, b/2), true}, {cancel(2, b-1, 1), true}, {cancel(2, b, 1), false},
		} {
			x := beginAt(t, sc, lens)
			x.hears(api.OK, shake(), api.Event{Hello: true, Peer: name})
			if c.legal {
				x.takes(c.m)
			} else {
				x.refuses(api.ErrPeerIndex, c.m)
			}
		}
	}
}

// P17.4: the flags that come, whatever they were.
func TestFlags(t *testing.T) {
	x := met(t, 130, 64)
	for i := range 256 {
		var ms []api.Msg
		for k := range 4 {
			ms = append(ms, []api.Msg{choke, unchoke, interested, idle}[i>>(2*k)&3])
		}
		x.p.came, x.p.told = slices.Concat(shake(), wire(choke, idle)), 3
		x.b.Feed(wire(choke, idle))
		for _, m := range ms {
			x.takes(m)
		}
	}
}

// P17.4: no message that came touches the flags of our own, and none but a have and a bitfield what the peer has.
func TestEffectsApart(t *testing.T) {
	for _, on := range []bool{true, false} {
		x := met(t, 130, 64)
		if on {
			x.says(unchoke, api.OK)
			x.says(interested, api.OK)
		}
		for _, m := range all() {
			before := x.b.State()
			x.takes(m)
			s := x.b.State()
			same := m.Kind == api.MsgHave || m.Kind == api.MsgBitfield || bytes.Equal(s.Has, before.Has)
			if s.AmChoking == on || s.AmInterested != on || !same {
				t.Errorf("behind %s: %+v", tell(m), s)
			}
		}
	}
}
