package client_test

import (
	"testing"

	"torrent/api"
)

var alive = []byte{0, 0, 0, 0}

// P24.12: a part that does not come in 8 ticks is asked for again, at the third time the connection is closed.
func TestLate(t *testing.T) {
	x := one(t)
	for _, late := range []int{0, 3, 8} {
		s := x.waiting(t)
		acts(t, "nobody is there", s.ticks(late))
		s.offers(2)
		beat := func(now int) [][]byte {
			if now%8 == 0 {
				return [][]byte{alive}
			}
			return nil
		}
		for i := 1; i < 24; i++ {
			want := sends(2, beat(late+i)...)
			if i == 8 || i == 16 {
				want = append(want, sends(2, ext(3, askText(0)))...)
			}
			acts(t, "tick "+num(late)+"+"+num(i), s.ticks(1), want)
		}
		acts(t, "the third time", s.ticks(1), drops(api.ErrSlow, 2))
		s.peers("the third time")
		acts(t, "not banned", s.join(2), sends(2, x.ours()))
	}
}

// P24.12: strikes count over all parts, and one who answers in time has none.
func TestStrikes(t *testing.T) {
	x := one(t)
	s := x.waiting(t)
	s.offers(2)
	s.ticks(7)
	acts(t, "in time", s.says(2, ext(1, x.part(0))), sends(2, ext(3, askText(1))))
	acts(t, "7 ticks", s.ticks(7), sends(2, alive))
	acts(t, "the first time", s.ticks(1), sends(2, ext(3, askText(1))))
	acts(t, "late, but asked for", s.says(2, ext(1, x.part(1))), sends(2, ext(3, askText(2))))
	acts(t, "the second time", s.ticks(8), sends(2, alive), sends(2, ext(3, askText(2))))
	acts(t, "refused", s.says(2, ext(1, noText(2))), sends(2, ext(3, askText(3))))
	s.ticks(7)
	acts(t, "a word", s.says(2, alive))
	acts(t, "the third time", s.ticks(1), drops(api.ErrSlow, 2))
}

// P24.12: who says nothing for 24 ticks is dropped; every byte counts, and joining does.
func TestQuiet(t *testing.T) {
	x := one(t)
	for name, c := range map[string]struct {
		at   int // the tick behind which something is said
		b    []byte
		last int // the tick at which the connection is closed
	}{
		"nothing":             {0, nil, 24},
		"nothing, late":       {13, []byte{}, 24},
		"a byte":              {5, []byte{19}, 29},
		"a handshake":         {23, x.hello(), 47},
		"an extended message": {10, append(x.able(), ext(9, "")...), 34},
		"a keep-alive":        {20, append(x.hello(), 0, 0, 0, 0), 44},
	} {
		for _, joined := range []int{0, 5} {
			s := x.waiting(t)
			s.ticks(joined)
			acts(t, name, s.join(2), sends(2, x.ours()))
			for i := 1; i < c.last; i++ {
				if l := drop(s.ticks(1)); len(l) != 0 {
					t.Fatalf("%s: tick %d: %s", name, i, shown(l))
				}
				if i == c.at {
					s.says(2, c.b)
				}
			}
			acts(t, name, s.ticks(1), drops(api.ErrQuiet, 2))
			s.peers(name)
		}
	}
}

// P24.12: who is both is slow; and of several the lower numbers come first, whatever they are dropped for.
func TestSlowAndQuiet(t *testing.T) {
	x := one(t)
	s := x.waiting(t)
	s.offers(6)
	s.offers(3)
	s.meets(5)
	s.meets(4)
	acts(t, "Join", s.join(9), sends(9, x.ours()))
	s.ticks(23)
	s.meets(1)
	acts(t, "a word", s.says(6, alive))
	acts(t, "the last tick", s.ticks(1), drops(api.ErrSlow, 3), drops(api.ErrQuiet, 4, 5), drops(api.ErrSlow, 6), drops(api.ErrQuiet, 9), sends(1, alive))
	s.peers("the last tick", 1)
}

// P24.12: at each eighth tick all whose handshake came are told that we are alive, rising, and behind that the parts are asked for.
func TestBeat(t *testing.T) {
	x := one(t)
	s := x.waiting(t)
	for _, peer := range []int{7, 2} {
		s.meets(peer)
	}
	acts(t, "Join", s.join(4), sends(4, x.ours()))
	acts(t, "not all of a handshake", s.says(4, x.able()[:67]))
	for now := 1; now <= 23; now++ {
		if now == 11 {
			acts(t, "all of it", s.says(4, x.able()[67:]), sends(4, ourWish(0)))
		}
		var want []api.Act
		if now == 8 || now == 16 {
			want = sends(2, alive)
			if now == 16 {
				want = append(want, sends(4, alive)...)
			}
			want = append(want, sends(7, alive)...)
		}
		acts(t, "tick "+num(now), s.ticks(1), want)
	}
	s = x.waiting(t)
	s.offers(5)
	acts(t, "7 ticks", s.ticks(7))
	acts(t, "the eighth", s.ticks(1), sends(5, alive), sends(5, ext(3, askText(0))))
}

// P24.12: while the torrent is running, a tick is the session's, and whom that drops is connected no longer.
func TestTickRunning(t *testing.T) {
	x := one(t)
	s := x.running(t)
	w, _ := s.session(t, x.text, s.d)
	for _, peer := range []int{1, 2, 3} {
		s.meets(peer)
		w.Join(peer)
		w.Bytes(peer, x.able())
		b := wire(x.field(x.every()[peer-1:]...), plainly(api.MsgUnchoke))
		acts(t, "what it has", s.says(peer, b), w.Bytes(peer, b))
	}
	closed := 0
	for i := range 30 {
		want := w.Tick()
		closed += len(drop(want))
		acts(t, "tick "+num(i), s.ticks(1), want)
		s.peers("tick "+num(i), w.Peers()...)
	}
	if closed != 3 {
		t.Errorf("%d connections were closed", closed)
	}
	for _, peer := range []int{1, 2, 3} {
		acts(t, "Join", s.join(peer), sends(peer, x.ours()))
	}
}

// P24.12: each torrent has a time of its own.
func TestTimes(t *testing.T) {
	x, y := one(t), flat(t)
	s := x.waiting(t)
	if n, e := s.c.AddLink(y.link(""), y.disk(t)); n != 1 || e != api.OK {
		t.Fatal(n, e)
	}
	s.c.Join(0, 2)
	s.c.Join(1, 2)
	for range 23 {
		acts(t, "the one", s.c.Tick(1))
	}
	acts(t, "the one", s.c.Tick(1), drops(api.ErrQuiet, 2))
	for range 23 {
		acts(t, "the other", s.c.Tick(0))
	}
	acts(t, "the other", s.c.Tick(0), drops(api.ErrQuiet, 2))
}
