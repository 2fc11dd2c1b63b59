package client_test

import (
	"math"
	"slices"
	"testing"

	"torrent/api"
)

// both are the torrent waiting and running.
func both(t *testing.T, x *torrent) map[string]*single {
	t.Helper()
	return map[string]*single{"waiting": x.waiting(t), "running": x.running(t)}
}

// P24.5: who joins is told our handshake; who can't is told why, and who is there already nothing.
func TestJoin(t *testing.T) {
	for what, s := range both(t, one(t)) {
		for _, peer := range []int{-1, math.MinInt} {
			acts(t, what+": below 0", s.join(peer))
		}
		s.peers(what)
		for _, peer := range []int{5, 0, math.MaxInt, 3, 6, 1, 4} {
			acts(t, what, s.join(peer), sends(peer, s.ours()))
			acts(t, what+": again", s.join(peer))
		}
		acts(t, what+": the eighth", s.join(2), sends(2, s.ours()))
		acts(t, what+": too many", s.join(7), drops(api.ErrCrowd, 7))
		acts(t, what+": again", s.join(5))
		s.peers(what, 0, 1, 2, 3, 4, 5, 6, math.MaxInt)
		acts(t, what, s.leave(3))
		acts(t, what+": there is room again", s.join(7), sends(7, s.ours()))
		acts(t, what+": not any more", s.join(3), drops(api.ErrCrowd, 3))
		s.peers(what, 0, 1, 2, 4, 5, 6, 7, math.MaxInt)
	}
}

// P24.5: our handshake has our number, and the first bytes of the infohash at any width.
func TestOurHandshake(t *testing.T) {
	for _, width := range []int{1, 19, 20, 21, 32} {
		x, _ := build(api.Scale{Block: 64, Width: width}, "t", 64, []byte("abc"))
		for what, s := range both(t, x) {
			acts(t, what, s.join(0), sends(0, x.ours()))
		}
	}
}

// lies lets a peer give a waiting torrent a wrong info dictionary: it is banned.
func (s *single) lies(peer int) {
	s.t.Helper()
	s.offers(peer)
	s.given(peer)
	b := s.last()
	b[len(b)-1] ^= 1
	acts(s.t, "a lie", s.says(peer, b), bans(api.ErrPartLie, peer))
}

// P24.5, P24.8, P24.11: who is banned can't join, however many there are, and in whatever phase.
func TestBanned(t *testing.T) {
	x := one(t)
	s := x.waiting(t)
	s.lies(4)
	s.peers("banned")
	acts(t, "banned", s.join(4), drops(api.ErrBanned, 4))
	acts(t, "banned", s.says(4, x.able()))
	for i := 10; i < 18; i++ {
		acts(t, "others", s.join(i), sends(i, x.ours()))
	}
	acts(t, "banned, and there is a crowd", s.join(4), drops(api.ErrBanned, 4))
	acts(t, "a crowd", s.join(5), drops(api.ErrCrowd, 5))
	for i := 10; i < 18; i++ {
		acts(t, "others", s.leave(i))
	}
	s.offers(6)
	s.given(6)
	acts(t, "the turn", s.says(6, s.last()), []api.Act{{Kind: api.ActFile, File: 2}})
	s.phase("the turn", api.PhaseRunning, api.OK)
	acts(t, "banned", s.join(4), drops(api.ErrBanned, 4))
	acts(t, "not banned", s.join(7), sends(7, x.ours()))
}

// P24.5: a bad torrent tells why it is bad, but to whom it has banned.
func TestJoinBad(t *testing.T) {
	x := lone(own, []byte("d6:pieces0:e"))
	s := x.byLink(t, sectors(t, 9))
	s.lies(4)
	s.offers(6)
	acts(t, "bad", s.says(6, s.last()), drops(api.ErrMetaHybrid, 6))
	s.phase("bad", api.PhaseBad, api.ErrMetaHybrid)
	for _, peer := range []int{5, 6, 0, math.MaxInt} {
		acts(t, "bad", s.join(peer), drops(api.ErrMetaHybrid, peer))
	}
	acts(t, "bad and banned", s.join(4), drops(api.ErrBanned, 4))
	acts(t, "bad and below 0", s.join(-1))
	s.peers("bad")
	acts(t, "bad", s.leave(6))
	acts(t, "bad", s.says(6, x.able()))
	acts(t, "bad", s.ticks(30))
}

// P24.6: who isn't connected can't leave; who leaves is known no more.
func TestLeave(t *testing.T) {
	for what, s := range both(t, one(t)) {
		for _, peer := range []int{5, 0, -1, math.MinInt, math.MaxInt} {
			acts(t, what+": who was never there", s.leave(peer))
		}
		s.meets(5)
		s.meets(6)
		acts(t, what, s.leave(5))
		s.peers(what, 6)
		acts(t, what+": again", s.leave(5))
		acts(t, what+": what comes from there", s.says(5, ext(0, "x")))
		s.meets(5)
		s.peers(what, 5, 6)
	}
}

// bareText is a client that has the torrent by a metainfo without piece layers, on an empty disk.
func (x *torrent) bareText(t *testing.T) *single {
	t.Helper()
	y := *x
	y.text = x.bare
	return y.running(t)
}

// P24.6: the session hears of it: nothing is asked any more of who has left, and all of it anew when it is there again.
func TestLeaveRunning(t *testing.T) {
	s := one(t).bareText(t)
	w, _ := s.session(t, s.text, s.d)
	b := wire(s.field(s.every()...), plainly(api.MsgUnchoke))
	for range 3 {
		for _, peer := range []int{1, 2} {
			s.meets(peer)
			w.Join(peer)
			want := w.Bytes(peer, slices.Concat(s.hello(), b))
			if len(want) < 3 {
				t.Fatal("not all is asked for")
			}
			acts(t, "what it has", s.says(peer, b), want)
		}
		acts(t, "Leave", s.leave(1), w.Leave(1))
		for range 9 {
			acts(t, "Tick", s.ticks(1), w.Tick())
		}
		acts(t, "Leave", s.leave(2), w.Leave(2))
	}
	acts(t, "Tick", s.ticks(1), w.Tick())
}

// ends are ways in which the connection to the peer 4 ends, while a part of a frame of 9 bytes has come.
func ends(t *testing.T) map[string]func(s *single) {
	rest := func(body ...byte) []byte { return append([]byte{9}, append(body, make([]byte, 9-len(body))...)...) }
	closed := func(why api.Errno, s *single, b ...[]byte) {
		acts(t, "the end", s.says(4, append([][]byte{rest()}, b...)...), drops(why, 4))
	}
	return map[string]func(s *single){
		"Leave":         func(s *single) { acts(t, "the end", s.leave(4)) },
		"ErrFrame":      func(s *single) { closed(api.ErrFrame, s, []byte{1, 0, 0, 0}) },
		"ErrExtShort":   func(s *single) { closed(api.ErrExtShort, s, framed([]byte{20})) },
		"ErrPartSize":   func(s *single) { closed(api.ErrPartSize, s, ext(0, wishText(3, 7))) },
		"a bad wish":    func(s *single) { closed(api.ErrExtForm, s, ext(0, "de")) },
		"a bad sheet":   func(s *single) { closed(api.ErrExtForm, s, ext(1, "le")) },
		"ErrPartLen":    func(s *single) { closed(api.ErrPartLen, s, ext(1, dataText(1, len(s.dict), some(63)))) },
		"another total": func(s *single) { closed(api.ErrPartSize, s, ext(1, dataText(1, 7, s.parts()[1]))) },
		"ErrBacklog":    func(s *single) { closed(api.ErrBacklog, s, wire(make([]api.Msg, 14)...)) },
		"ErrSlow": func(s *single) {
			l := s.ticks(16)
			acts(t, "the end", l[len(l)-1:], drops(api.ErrSlow, 4))
		},
		"ErrQuiet": func(s *single) {
			s.says(4, rest(), ext(0, wishText(0, 0)))
			l := s.ticks(24)
			acts(t, "the end", l[len(l)-1:], drops(api.ErrQuiet, 4))
		},
	}
}

// P24.11: nothing of a connection that is forgotten counts when the peer joins again: neither its stream, its size and its number for parts, nor the part that is out at it and those that it gave, nor its strikes and its backlog.
func TestForgotten(t *testing.T) {
	x := one(t)
	for what, end := range ends(t) {
		s := x.waiting(t)
		s.offers(4)
		acts(t, what, s.says(4, ext(1, s.part(0))), sends(4, ext(3, askText(1))))
		acts(t, what, s.says(4, wire(make([]api.Msg, 50)...)))
		s.ticks(9) // late once, and asked again
		acts(t, what, s.says(4, []byte{0, 0, 0}))
		end(s)
		s.peers(what)
		acts(t, what, s.leave(4))
		acts(t, what, s.says(4, x.able()))
		s.meets(4)
		acts(t, what+": no number", s.says(4, ext(0, "d1:mde13:metadata_sizei77ee")))
		acts(t, what+": no backlog", s.says(4, wire(make([]api.Msg, 64)...)))
		acts(t, what+": no size", s.leave(4))
		s.offers(4)
		l := s.ticks(24)
		if n := len(drop(l)); n != 1 || !sameAct(drop(l)[0], drops(api.ErrSlow, 4)[0]) {
			t.Fatalf("%s: no strikes: %s", what, shown(l))
		}
		s.peers(what)
	}
}

// drop are those of acts that close connections.
func drop(l []api.Act) []api.Act {
	return slices.DeleteFunc(slices.Clone(l), func(a api.Act) bool { return a.Kind != api.ActDrop && a.Kind != api.ActBan })
}

// P24.11: whom the session closes the connection to, for whatever reason, is connected no longer; whom it bans is banned.
func TestClosedByTheSession(t *testing.T) {
	x := made(t, "t", some(9), some(70))
	for what, c := range map[string]struct {
		b   [][]byte
		why api.Errno
	}{
		"an unknown kind": {[][]byte{{0, 0, 0, 1, 9}}, api.ErrMsgKind},
		"a late bitfield": {[][]byte{wire(plainly(api.MsgUnchoke)), wire(x.field())}, api.ErrPeerOrder},
		"a long bitfield": {[][]byte{wire(api.Msg{Kind: api.MsgBitfield, Data: []byte{0, 0}})}, api.ErrPeerField},
		"no such piece":   {[][]byte{wire(api.Msg{Kind: api.MsgHave, Index: 3})}, api.ErrPeerIndex},
		"no such message": {[][]byte{{0, 0, 0, 2, 1, 1}}, api.ErrMsgSize},
		"a wrong piece":   {[][]byte{wire(x.field(0), plainly(api.MsgUnchoke)), wire(wrong(x.block(0, 0)))}, api.ErrLied},
		"a wrong row":     {[][]byte{wire(x.field(1, 2)), wire(wrongRow(x))}, api.ErrLied},
		"two faults":      {[][]byte{slices.Concat([]byte{0, 0, 0, 1, 9}, ext(0, "x"), []byte{1, 0, 0, 0})}, api.ErrMsgKind},
	} {
		s := x.bareText(t)
		s.meets(4)
		s.meets(5)
		var got []api.Act
		for _, b := range c.b {
			got = append(got, s.says(4, b)...)
		}
		if l := drop(got); len(l) != 1 || l[0].Peer != 4 || l[0].Why != c.why {
			t.Fatalf("%s: %s", what, shown(got))
		}
		s.peers(what, 5)
		acts(t, what, s.says(4, ext(0, "x")))
		acts(t, what, s.leave(4))
		if c.why == api.ErrLied {
			acts(t, what, s.join(4), drops(api.ErrBanned, 4))
		} else {
			acts(t, what, s.join(4), sends(4, x.ours()))
		}
	}
}

// wrongRow is a false answer to the query that the torrent's second file is asked by.
func wrongRow(x *torrent) api.Msg {
	return api.Msg{Kind: api.MsgHashes, Root: x.m.Files[1].Root, Base: 0, Index: 0, Length: 2, Proofs: 0, Hashes: []api.Hash{{1}, {2}}}
}
