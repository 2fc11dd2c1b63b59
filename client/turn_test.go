package client_test

import (
	"bytes"
	"slices"
	"strings"
	"testing"

	"torrent/api"
	"torrent/disk"
	"torrent/session"
)

// join is a session's Join without its first act.
func join(w *session.Session, peer int) []api.Act { return w.Join(peer)[1:] }

// P24.9: the session starts, its peers join, rising, and it hears what each has said.
func TestTurn(t *testing.T) {
	x := made(t, "t", some(400), some(30))
	d := x.filled(t, 1, 7)
	s := x.byLink(t, d)
	w, want := s.session(t, x.bare, d)
	if len(want) != 2 {
		t.Fatalf("the start: %s", shown(want))
	}
	talk := map[int][][]byte{
		9: {wire(x.field(0, 3)), wire(plainly(api.MsgUnchoke))},
		4: {wire(plainly(api.MsgInterested))},
		6: {wire(x.field(x.every()...), plainly(api.MsgUnchoke), plainly(api.MsgInterested), api.Msg{Kind: api.MsgOther, Index: 90, Data: []byte("x")})},
		2: nil,
	}
	for _, peer := range []int{9, 4, 1, 6, 3, 2} {
		if _, shakes := talk[peer]; !shakes {
			acts(t, "Join", s.join(peer), sends(peer, x.ours()))
			continue
		}
		s.meets(peer)
		for _, b := range talk[peer] {
			acts(t, "what waits", s.says(peer, b, []byte{0, 0, 0, 0}, ext(9, "x")))
		}
	}
	s.says(3, x.hello()[:30])
	s.says(4, ext(0, wishText(3, len(x.dict))))
	s.given(4)
	for _, peer := range []int{1, 2, 3, 4, 6, 9} {
		want = append(want, join(w, peer)...)
		if all, shakes := talk[peer]; shakes {
			b := append(x.able(), slices.Concat(all...)...)
			if peer == 4 {
				b = append(b, wire(api.Msg{Kind: api.MsgHave, Index: 5})...)
			}
			want = append(want, w.Bytes(peer, b)...)
		}
	}
	if len(want) < 12 {
		t.Fatalf("too little comes of it: %s", shown(want))
	}
	acts(t, "the turn", s.says(4, s.last(), wire(api.Msg{Kind: api.MsgHave, Index: 5})), want)
	s.phase("the turn", api.PhaseRunning, api.OK)
	s.peers("the turn", 1, 2, 3, 4, 6, 9)
	if b, e := s.c.Text(0); e != api.OK || !bytes.Equal(b, x.bare) {
		t.Errorf("Text = %q, %d", b, e)
	}
	if x := s.state(); x.Name != "t" || x.Pieces != 8 || x.Had != 1 || !slices.Equal(x.Done, []bool{false, true}) {
		t.Errorf("State = %v", x)
	}
	for range 12 {
		acts(t, "Tick", s.ticks(1), w.Tick())
	}
	acts(t, "what was said goes to the session from now on", s.says(2, wire(plainly(api.MsgInterested))), w.Bytes(2, wire(plainly(api.MsgInterested))))
	acts(t, "the rest of a handshake", s.says(3, x.hello()[30:]), w.Bytes(3, x.hello()))
	acts(t, "a handshake", s.says(1, x.able(), wire(plainly(api.MsgUnchoke))), sends(1, ourWish(len(x.dict))), w.Bytes(1, slices.Concat(x.able(), wire(plainly(api.MsgUnchoke)))))
}

// P24.9: the session's time begins with the turn: who was silent for long, or late, begins anew.
func TestTurnTime(t *testing.T) {
	x := one(t)
	s := x.waiting(t)
	s.meets(1)
	s.ticks(13)
	acts(t, "late twice", sheetsOf(s, 2, 9), sends(2, ext(3, askText(0)), ext(3, askText(0))))
	s.given(2)
	acts(t, "the turn", s.says(2, s.last()), []api.Act{{Kind: api.ActFile, File: 2}})
	w, _ := s.session(t, x.bare, sectors(t, s.d.Size()))
	for _, peer := range []int{1, 2} {
		w.Join(peer)
		w.Bytes(peer, x.able())
	}
	for range 23 {
		acts(t, "Tick", s.ticks(1), w.Tick())
	}
	acts(t, "the last tick", s.ticks(1), w.Tick())
	s.peers("quiet")
}

// sheetsOf lets a peer offer and be late, with so many ticks; what it is asked for.
func sheetsOf(s *single, peer, ticks int) []api.Act {
	s.offers(peer)
	l := append(sends(peer, ext(3, askText(0))), s.ticks(ticks)...)
	return slices.DeleteFunc(l, func(a api.Act) bool { return len(a.Data) < 6 || a.Data[4] != 20 })
}

// flat is a torrent of two pieces whose hashes its info dictionary tells, and an empty file.
func flat(t *testing.T) *torrent {
	t.Helper()
	return made(t, "flat", some(60), some(20), nil)
}

// P24.9: what comes behind the last part in the same call is heard while the torrent is running.
func TestBehindTheTurn(t *testing.T) {
	x := flat(t)
	s := x.waiting(t)
	s.offers(2)
	s.given(2)
	acts(t, "a question", s.says(2, ext(1, askText(1)), s.last(), ext(1, askText(1)), ext(0, wishText(3, 7)), ext(1, x.part(0)), ext(1, noText(0)), ext(1, askText(0))),
		sends(2, ext(3, noText(1))), []api.Act{{Kind: api.ActFile, File: 2}}, sends(2, ext(3, x.part(1)), ext(3, x.part(0))))
	s.phase("behind the turn", api.PhaseRunning, api.OK)

	for name, c := range map[string]struct {
		b   []byte
		why api.Errno
	}{"a fault": {[]byte{1, 0, 0, 0}, api.ErrFrame}, "a bad wish": {ext(0, "de"), api.ErrExtForm}} {
		s = x.waiting(t)
		s.offers(2)
		s.given(2)
		acts(t, name, s.says(2, s.last(), c.b), []api.Act{{Kind: api.ActFile, File: 2}}, drops(c.why, 2))
		s.peers(name)
		acts(t, name+": the session knows", s.join(2), sends(2, x.ours()))
		acts(t, name+": the session knows", s.says(2, x.able(), wire(x.field(1))), sends(2, ourWish(len(x.dict)), wire(plainly(api.MsgInterested))))
	}
}

// P24.9, P24.11: what a peer said ahead of the turn can close its connection, and no other.
func TestClosedAtTheTurn(t *testing.T) {
	x := flat(t)
	s := x.waiting(t)
	for _, peer := range []int{1, 2, 3} {
		s.offers(peer)
	}
	acts(t, "what can't be said", s.says(1, wire(api.Msg{Kind: api.MsgHave, Index: 3})))
	acts(t, "what can't be said", s.says(2, wire(plainly(api.MsgUnchoke), x.field(0))))
	acts(t, "what can be said", s.says(3, wire(x.field(1))))
	s.given(2)
	acts(t, "the turn", s.says(2, s.last(), ext(0, "x"), []byte{1, 0, 0, 0}), []api.Act{{Kind: api.ActFile, File: 2}},
		drops(api.ErrPeerIndex, 1), drops(api.ErrPeerOrder, 2), sends(3, wire(plainly(api.MsgInterested))))
	s.peers("the turn", 3)
	acts(t, "not banned", s.join(2), sends(2, x.ours()))
	acts(t, "not banned", s.join(1), sends(1, x.ours()))
}

// P24.9: no session can be started: everybody is told why, and what is asked later, too.
func TestBad(t *testing.T) {
	x := one(t)
	small := func(n int) *disk.Disk { return sectors(t, n) }
	named := func(name string) *torrent {
		return lone(own, []byte("d9:file treed1:ad0:d6:lengthi0eeee12:meta versioni2e4:name"+num(len(name))+":"+name+"12:piece lengthi64ee"))
	}
	for what, c := range map[string]struct {
		x   *torrent
		d   *disk.Disk
		why api.Errno
	}{
		"version 1":             {lone(own, []byte("d5:filesle6:lengthi5e6:pieces0:e")), small(9), api.ErrMetaHybrid},
		"two files of one path": {lone(own, []byte("d9:file treed1:ad0:d6:lengthi0eee1:ad0:d6:lengthi0eeee12:meta versioni2e4:name1:t12:piece lengthi64ee")), small(9), api.ErrTextKey},
		"a name with a slash":   {named("a/b"), small(9), api.ErrNameByte},
		"no dictionary":         {lone(own, []byte("i7e")), small(9), api.ErrMetaShape},
		"no value":              {lone(own, []byte("x")), small(9), api.ErrTextByte},
		"a value and more":      {lone(own, []byte("de4:infode")), small(9), api.ErrTextKey},
		"piece layers in it":    {lone(own, []byte("de12:piece layersdee")), small(9), api.ErrTextTrail},
		"a piece length":        {lone(own, bytes.Replace(x.dict, []byte("lengthi64e"), []byte("lengthi96e"), 1)), small(9), api.ErrMetaPiece},
		"a small disk":          {x, small(x.disk(t).Size() - 1), api.ErrStoreDisk},
		"a disk of another":     {x, made(t, "another", some(900)).filled(t, 2), api.ErrStoreOther},
	} {
		was := c.d.Copy()
		s := c.x.byLink(t, c.d)
		acts(t, what, s.join(8), sends(8, s.ours()))
		s.offers(5)
		acts(t, what, s.says(5, wire(plainly(api.MsgUnchoke))))
		s.meets(3)
		s.given(5)
		acts(t, what, s.says(5, s.last(), ext(0, "x"), ext(1, askText(0)), []byte{1, 0, 0, 0}), drops(c.why, 3, 5, 8))
		s.phase(what, api.PhaseBad, c.why)
		s.peers(what)
		untouched(t, what, c.d, was)
		if y := s.state(); y.Name != "by link" || y.Info != c.x.info || y.Pieces != 0 || y.Had != 0 || len(y.Done) != 0 {
			t.Errorf("%s: State = %v", what, y)
		}
		if b, e := s.c.Text(0); e != api.OK || string(b) != "d4:info"+string(c.x.dict)+"12:piece layersdee" {
			t.Errorf("%s: Text = %q, %d", what, b, e)
		}
		acts(t, what, s.join(3), drops(c.why, 3))
		acts(t, what, s.says(5, c.x.able()))
		acts(t, what, s.ticks(40))
		refused(t, what, addLink(s.c, c.x.link("x"), c.d), api.ErrPresent)
		s.phase(what, api.PhaseBad, c.why)
	}
}

// P24.9: an info dictionary of the greatest size makes too long a text.
func TestGreatest(t *testing.T) {
	for n, want := range map[int]api.Errno{api.MaxText: api.ErrTextLong, api.MaxText - 25: api.ErrMetaShape, api.MaxText - 24: api.ErrTextLong} {
		dict := "d1:a" + num(n-13) + ":" + strings.Repeat("x", n-13) + "e"
		x := lone(api.Scale{Block: 16384, Width: 32}, []byte(dict))
		if len(dict) != n {
			t.Fatalf("%d bytes", len(dict))
		}
		s := x.byLink(t, sectors(t, 1))
		s.offers(2)
		s.given(2)
		if len(x.parts()) != 64 {
			t.Fatalf("%d parts", len(x.parts()))
		}
		acts(t, "the turn", s.says(2, s.last()), drops(want, 2))
		if b, e := s.c.Text(0); e != api.OK || !bytes.Equal(b, x.bare) {
			t.Errorf("Text = %d bytes, %d", len(b), e)
		}
	}
}

// P24.9: at a small width another dictionary can come, and is believed: it has the infohash.
func TestTwin(t *testing.T) {
	sc := api.Scale{Block: 64, Width: 1}
	x, _ := build(sc, "t", 64, []byte("abc"))
	for i := range 2000 {
		y, _ := build(sc, "twin"+num(i), 64, []byte("xyz"))
		if y.info != x.info {
			continue
		}
		s := x.waiting(t)
		s.offers(2)
		s.torrent = y
		acts(t, "a size", s.leave(2))
		s.offers(2)
		s.given(2)
		acts(t, "the turn", s.says(2, s.last()))
		s.phase("the turn", api.PhaseRunning, api.OK)
		if z := s.state(); z.Name != "twin"+num(i) {
			t.Errorf("State = %v", z)
		}
		return
	}
	t.Error("there is no twin")
}
