package client_test

import (
	"bytes"
	"slices"
	"testing"

	"torrent/api"
)

// P24.7: bytes of who isn't connected are let go.
func TestBytesOfNobody(t *testing.T) {
	for what, s := range both(t, one(t)) {
		s.meets(5)
		for _, peer := range []int{4, 0, -1, 6} {
			acts(t, what, s.says(peer, s.able(), ext(0, "x")))
		}
		s.peers(what, 5)
	}
}

// P24.7: who takes extended messages is told our wish, and others are not: the bit 16 of the byte 5 counts alone.
func TestOurWish(t *testing.T) {
	x := one(t)
	for what, s := range both(t, x) {
		for i, flags := range [][8]byte{{}, {5: 239}, {255, 255, 255, 255, 255, 239, 255, 255}, {0, 16, 16, 16, 16, 0, 16, 16}, {5: 16}, {5: 17}, {5: 255}, {5: 48, 7: 1}} {
			b := x.hello()
			copy(b[20:28], flags[:])
			var want []api.Act
			if i >= 4 {
				want = sends(7, ourWish(s.size()))
			}
			acts(t, what, s.join(7), sends(7, x.ours()))
			acts(t, what+": "+num(i), s.says(7, b), want)
			acts(t, what, s.leave(7))
		}
	}
	if n := x.running(t).size(); n != len(x.dict) || n < 129 {
		t.Errorf("the info dictionary has %d bytes", n)
	}
}

// P24.7: a handshake of another torrent: nothing that came with it counts, but the session hears that the peer has gone.
func TestOtherTorrent(t *testing.T) {
	x := one(t)
	for what, s := range both(t, x) {
		s.meets(1)
		for _, at := range []int{28, 29, 40, 47} {
			for _, b := range [][]byte{nil, wire(make([]api.Msg, 70)...), ext(0, "x"), {1, 0, 0, 0}, {0, 0, 0, 1, 9}} {
				h := x.able()
				h[at] ^= 4
				acts(t, what, s.join(2), sends(2, x.ours()))
				acts(t, what, s.says(2, h, b), drops(api.ErrPeerInfo, 2))
				s.peers(what, 1)
				acts(t, what, s.says(2, x.able()))
			}
		}
		for i := range 7 {
			acts(t, what+": no crowd", s.join(20+i), sends(20+i, x.ours()))
		}
	}
}

// P24.7: when the first byte that is wrong came, the stream is broken.
func TestNoHandshake(t *testing.T) {
	for what, s := range both(t, one(t)) {
		for at := range 20 {
			b := s.able()
			b[at]++
			acts(t, what, s.join(2), sends(2, s.ours()))
			acts(t, what, s.says(2, b[:at]))
			acts(t, what, s.says(2, b[at:]), drops(api.ErrHello, 2))
			s.peers(what)
			acts(t, what, s.says(2, b))
		}
		acts(t, what, s.join(3), sends(3, s.ours()))
		acts(t, what+": frames ahead of it", s.says(3, []byte{0, 0, 0, 0}), drops(api.ErrHello, 3))
		s.peers(what)
	}
}

// P24.7: a frame too long: what came ahead of it counts, what comes behind it doesn't.
func TestTooLong(t *testing.T) {
	x := one(t)
	for what, s := range both(t, x) {
		size, ask := s.size(), []byte(nil)
		if size == 0 {
			ask = ext(7, askText(0))
		}
		wish := ext(0, wishText(7, len(x.dict)))
		acts(t, what, s.join(2), sends(2, x.ours()))
		want := sends(2, ourWish(size))
		l := s.says(2, x.able(), []byte{0, 0, 0, 1, 2}, wish, []byte{0, 0, 128, 1}, wish, ext(0, "x"))
		acts(t, what, l, want, drops(api.ErrFrame, 2))
		s.peers(what)

		acts(t, what, s.join(2), sends(2, x.ours()))
		l = s.says(2, x.able(), wish)
		if ask != nil {
			want = append(want, sends(2, ask)...)
		}
		acts(t, what, l, want)
		acts(t, what, s.says(2, []byte{0, 0, 128}))
		acts(t, what, s.says(2, []byte{1}), drops(api.ErrFrame, 2))
		s.peers(what)

		acts(t, what, s.join(2), sends(2, x.ours()))
		acts(t, what+": as long as may be", s.says(2, x.able(), framed(slices.Concat([]byte{20, 9}, make([]byte, 32766)))), sends(2, ourWish(size)))
		s.peers(what, 2)
	}
}

// P24.7: a connection is closed once, for the first reason.
func TestClosedOnce(t *testing.T) {
	x := one(t)
	for what, s := range both(t, x) {
		for name, c := range map[string]struct {
			b   []byte
			why api.Errno
		}{
			"two bad wishes":             {slices.Concat(ext(0, "x"), ext(0, "de")), api.ErrTextByte},
			"a bad wish and a fault":     {slices.Concat(ext(0, "de"), []byte{1, 0, 0, 0}), api.ErrExtForm},
			"a short one and a bad wish": {slices.Concat(framed([]byte{20}), ext(0, "x")), api.ErrExtShort},
		} {
			s.meets(3)
			acts(t, what+": "+name, s.says(3, c.b), drops(c.why, 3))
			s.peers(what)
		}
	}
	s := x.waiting(t)
	s.meets(3)
	acts(t, "a backlog, a bad wish and a fault", s.says(3, wire(make([]api.Msg, 65)...), ext(0, "x"), []byte{1, 0, 0, 0}), drops(api.ErrBacklog, 3))
	s = x.running(t)
	s.meets(3)
	acts(t, "an unknown kind, a bad wish and a fault", s.says(3, []byte{0, 0, 0, 1, 9}, ext(0, "x"), []byte{1, 0, 0, 0}), drops(api.ErrMsgKind, 3))
}

// P24.7: while the torrent is running, the session hears the plain messages of a call in one, and ahead of all extended ones.
func TestPlainFirst(t *testing.T) {
	x := one(t)
	s := x.running(t)
	w, _ := s.session(t, x.text, s.d)
	s.join(2)
	w.Join(2)
	ask := ext(1, askText(0))
	want := w.Bytes(2, slices.Concat(x.hello(), wire(x.field(0, 1, 2), plainly(api.MsgUnchoke))))
	if len(want) < 4 {
		t.Fatal("nothing is asked for")
	}
	acts(t, "extended ones among others", s.says(2, x.able(), ext(0, wishText(5, 0)), wire(x.field(0, 1, 2)), ask, wire(plainly(api.MsgUnchoke)), ext(1, askText(1))),
		sends(2, ourWish(len(x.dict))), want, sends(2, ext(5, x.part(0)), ext(5, x.part(1))))

	s = x.running(t)
	s.meets(2)
	acts(t, "what is over by the end of the call", s.says(2, wire(x.field(0), plainly(api.MsgUnchoke)), ask, wire(plainly(api.MsgChoke))), sends(2, wire(plainly(api.MsgInterested))))
}

// P24.7: an extended body begins with the byte 20, and none else is one.
func TestParted(t *testing.T) {
	x := one(t)
	for kind := range 256 {
		s := x.waiting(t)
		s.meets(2)
		s.says(2, wire(make([]api.Msg, 64)...))
		b := framed([]byte{byte(kind), 9})
		if kind == 20 {
			acts(t, "extended", s.says(2, b))
		} else {
			acts(t, "the kind "+num(kind), s.says(2, b), drops(api.ErrBacklog, 2))
		}
	}
}

// P24.7: 64 bodies may wait, over all calls; empty ones and extended ones don't count.
func TestBacklog(t *testing.T) {
	x := one(t)
	alive, choke := []byte{0, 0, 0, 0}, []byte{0, 0, 0, 1, 0}
	for _, calls := range [][]int{{64}, {63, 1}, {1, 1, 62}, {0, 64}, {32, 32}} {
		s := x.waiting(t)
		s.meets(2)
		for _, n := range calls {
			acts(t, "not too much", s.says(2, bytes.Repeat(choke, n), bytes.Repeat(alive, 100), bytes.Repeat(ext(9, ""), 100)))
		}
		acts(t, "not too much", s.says(2, bytes.Repeat(alive, 65)))
		s.meets(3)
		acts(t, "another one's", s.says(3, bytes.Repeat(choke, 64)))
		acts(t, "too much", s.says(2, alive, choke), drops(api.ErrBacklog, 2))
		s.peers("too much", 3)
	}
	s := x.waiting(t)
	acts(t, "Join", s.join(2), sends(2, x.ours()))
	acts(t, "too much at once", s.says(2, x.hello(), bytes.Repeat(choke, 65)), drops(api.ErrBacklog, 2))
	s = x.running(t)
	s.meets(2)
	acts(t, "running", s.says(2, bytes.Repeat(choke, 1000)))
	s.peers("running", 2)
}

// cut lets a peer say something in two pieces.
func (s *single) cut(peer, at int, b ...[]byte) []api.Act {
	all := slices.Concat(b...)
	at %= len(all) + 1
	return append(s.says(peer, all[:at]), s.says(peer, all[at:])...)
}

// P24.7: how the stream is cut changes nothing of what is said, while the torrent is running.
func TestCutsRunning(t *testing.T) {
	x := one(t)
	s := x.running(t)
	b := slices.Concat(x.able(), ext(0, wishText(7, 0)), wire(x.field(0, 2)), ext(1, askText(0)), ext(1, x.part(0)), ext(1, askText(4)), wire(plainly(api.MsgInterested)), ext(9, "x"), []byte{0, 0, 0, 0})
	var said []string
	for _, m := range [][]byte{ourWish(len(x.dict)), ext(7, x.part(0)), ext(7, noText(4))} {
		said = append(said, string(m[5:]))
	}
	for at := range len(b) + 1 {
		s.join(2)
		if l := sheets(s.cut(2, at, b)); !slices.Equal(l, said) {
			t.Fatalf("cut at %d: %q", at, l)
		}
		s.peers("cut", 2)
		s.leave(2)
	}
}

// P24.7: nor while it is waiting, nor does it change what the session hears in the end.
func TestCutsWaiting(t *testing.T) {
	x := one(t)
	begin := slices.Concat(x.able(), wire(x.field(0, 2)), []byte{0, 0, 0, 0}, ext(0, wishText(3, len(x.dict))), wire(plainly(api.MsgUnchoke)))
	var want []api.Act
	for at := range len(begin) + 1 {
		s := x.waiting(t)
		s.join(2)
		acts(t, "the begin", s.cut(2, at, begin), sends(2, ourWish(0), ext(3, askText(0))))
		for i := range len(x.parts()) - 1 {
			acts(t, "a part", s.cut(2, at, ext(1, s.part(i))), sends(2, ext(3, askText(i+1))))
		}
		l := s.cut(2, at, s.last(), wire(plainly(api.MsgInterested)))
		if at == 0 {
			want = l
		}
		if len(l) < 4 {
			t.Fatalf("cut at %d: only %s", at, shown(l))
		}
		acts(t, "the turn, cut at "+num(at), l, want)
	}
}

// sheets are what acts say by extended messages.
func sheets(l []api.Act) []string {
	var all []string
	for _, a := range l {
		if a.Kind == api.ActSend && len(a.Data) > 5 && a.Data[4] == 20 {
			all = append(all, string(a.Data[5:]))
		}
	}
	return all
}

// P24.7: empty bytes say nothing: the session is not called for them, nor for extended messages alone, and does not hear them.
func TestNotHeard(t *testing.T) {
	x := one(t)
	for name, b := range map[string][]byte{
		"nothing": nil, "a part of a frame": {0}, "extended messages": ext(0, wishText(5, 0)), "questions": ext(1, askText(0)),
	} {
		s := x.running(t)
		s.meets(2)
		if name == "a part of a frame" {
			s.says(2, []byte{0, 0, 128, 0})
		}
		for i := 1; i < 24; i++ {
			s.says(2, b)
			if l := drop(s.ticks(1)); len(l) != 0 {
				t.Fatalf("%s: tick %d: %s", name, i, shown(l))
			}
		}
		s.says(2, b)
		acts(t, name, drop(s.ticks(1)), drops(api.ErrQuiet, 2))
		s.peers(name)
	}
	s := x.running(t)
	s.meets(2)
	for range 50 {
		s.says(2, []byte{0, 0, 0, 0})
		acts(t, "keep-alives are heard", drop(s.ticks(1)))
	}
	s.peers("keep-alives", 2)
}
