package client_test

import (
	"bytes"
	"math"
	"slices"
	"testing"

	"torrent/api"
)

// P24.13: while the torrent is waiting there is nothing to be asked for but its state.
func TestAskWaiting(t *testing.T) {
	x := one(t)
	s := x.waiting(t)
	s.offers(5)
	s.given(5)
	s.meets(2)
	if b, e := s.c.Text(0); e != api.ErrWaiting || len(b) != 0 {
		t.Errorf("Text = %q, %d", b, e)
	}
	nothingRuns(t, s)
	if y := s.state(); y.Phase != api.PhaseWaiting || y.Why != api.OK || y.Info != x.info || y.Name != "by link" || y.Pieces != 0 || y.Had != 0 || len(y.Done) != 0 || !slices.Equal(y.Peers, []int{2, 5}) {
		t.Errorf("State = %v", y)
	}
}

// nothingRuns fails the test unless all is refused that a session answers.
func nothingRuns(t *testing.T, s *single) {
	t.Helper()
	wants(t, "Sync", s.c.Sync(0), api.ErrWaiting)
	for _, i := range []int{-1, 0, 1, 5, math.MaxInt} {
		if b, e := s.c.File(0, i); e != api.ErrWaiting || len(b) != 0 {
			t.Errorf("File = %q, %d", b, e)
		}
	}
	if l, e := s.c.Answers(0); e != api.ErrWaiting || len(l) != 0 {
		t.Errorf("Answers = %v, %d", l, e)
	}
}

// P24.13, P24.14: a bad one has its text and its state alone.
func TestAskBad(t *testing.T) {
	x := lone(own, []byte("d6:lengthi5ee"))
	s := x.byLink(t, sectors(t, 9))
	s.offers(5)
	acts(t, "the turn", s.says(5, s.last()), drops(api.ErrMetaHybrid, 5))
	nothingRuns(t, s)
	if b, e := s.c.Text(0); e != api.OK || string(b) != "d4:infod6:lengthi5ee12:piece layersdee" {
		t.Errorf("Text = %q, %d", b, e)
	}
	if y := s.state(); y.Phase != api.PhaseBad || y.Why != api.ErrMetaHybrid || y.Info != x.info || y.Name != "by link" || y.Pieces != 0 || y.Had != 0 || len(y.Done) != 0 || len(y.Peers) != 0 {
		t.Errorf("State = %v", y)
	}
}

// P24.13, P24.14: what a running one has: its text, its files as they become complete, the answers that it took.
func TestAskRunning(t *testing.T) {
	x := one(t)
	s := x.bareText(t)
	s.meets(3)
	w, _ := s.session(t, x.bare, s.d)
	w.Join(3)
	hear := func(b []byte) {
		t.Helper()
		acts(t, "what it says", s.says(3, b), w.Bytes(3, b))
	}
	w.Bytes(3, x.able())
	look := func(had int, done ...bool) {
		t.Helper()
		y := s.state()
		if y.Phase != api.PhaseRunning || y.Why != api.OK || y.Info != x.info || y.Name != "one" || y.Pieces != 3 || y.Had != had || !slices.Equal(y.Done, done) || !slices.Equal(y.Peers, []int{3}) {
			t.Fatalf("State = %v", y)
		}
		for i, on := range done {
			b, e := s.c.File(0, i)
			if on && (e != api.OK || !bytes.Equal(b, x.files[i])) || !on && (e != api.ErrLeft || len(b) != 0) {
				t.Fatalf("File(%d) = %q, %d", i, b, e)
			}
		}
		for _, i := range []int{-1, 3, math.MinInt, math.MaxInt} {
			if b, e := s.c.File(0, i); e != api.ErrFile || len(b) != 0 {
				t.Fatalf("File(%d) = %q, %d", i, b, e)
			}
		}
		l, e := s.c.Answers(0)
		if e != api.OK || !slices.EqualFunc(l, w.Answers(), func(a, b api.Answer) bool { return a.Query == b.Query && slices.Equal(a.Hashes, b.Hashes) }) {
			t.Fatalf("Answers = %v, %d", l, e)
		}
	}
	look(0, false, false, true)
	hear(wire(x.field(0, 1, 2), plainly(api.MsgUnchoke)))
	hear(wire(x.block(2, 0)))
	look(1, false, true, true)
	hear(wire(api.Msg{Kind: api.MsgHashes, Root: x.m.Files[0].Root, Length: 2, Hashes: x.m.Layers[0].Hashes}))
	if len(w.Answers()) != 1 {
		t.Fatal("no answer was taken")
	}
	hear(wire(x.block(1, 0)))
	look(2, false, true, true)
	hear(wire(x.block(0, 0)))
	look(3, true, true, true)
	if b, e := s.c.Text(0); e != api.OK || !bytes.Equal(b, x.bare) {
		t.Errorf("Text = %q, %d", b, e)
	}
}

// P24.13: Sync makes what was done last; without it a crash may take all.
func TestSync(t *testing.T) {
	x := flat(t)
	for _, synced := range []bool{false, true} {
		s := x.running(t)
		s.meets(3)
		s.says(3, wire(x.field(0, 1), plainly(api.MsgUnchoke)))
		s.says(3, wire(x.block(0, 0), x.block(1, 0)))
		if y := s.state(); y.Had != 2 {
			t.Fatalf("State = %v", y)
		}
		want := 0
		if synced {
			wants(t, "Sync", s.c.Sync(0), api.OK)
			want = 2
			if len(s.d.Pending()) != 0 {
				t.Error("not all is synced")
			}
		}
		wants(t, "Crash", s.d.Crash(make([]bool, len(s.d.Pending())), -1, 0), api.OK)
		again, _ := x.byText(t, s.d)
		if y := again.state(); y.Had != want {
			t.Errorf("behind a crash: State = %v, want %d", y, want)
		}
	}
}

// P24.13: Sync tells what the session's does.
func TestSyncRefused(t *testing.T) {
	x := flat(t)
	s := x.running(t)
	w, _ := s.session(t, x.text, s.d)
	for range 3 {
		wants(t, "Sync", s.c.Sync(0), w.Sync())
	}
}

// P24.14: which files are complete, for files of all numbers of pieces.
func TestDone(t *testing.T) {
	sizes := []int{0, 64, 0, 0, 130, 1, 0, 65, 200, 0}
	var files [][]byte
	for _, n := range sizes {
		files = append(files, some(n))
	}
	x := made(t, "t", files...)
	for k := range 1 << len(x.pieces) {
		if k%7 != 0 && k != 1<<len(x.pieces)-1 {
			continue
		}
		var had []int
		for i := range x.pieces {
			if k>>i&1 == 1 {
				had = append(had, i)
			}
		}
		s, l := x.byText(t, x.filled(t, had...))
		want := make([]bool, len(sizes))
		for _, a := range l {
			if a.Kind == api.ActFile {
				want[a.File] = true
			}
		}
		if y := s.state(); y.Pieces != len(x.pieces) || y.Had != len(had) || !slices.Equal(y.Done, want) {
			t.Fatalf("with %v: State = %v", had, y)
		}
	}
	x = made(t, "empty", nil, nil)
	s, _ := x.byText(t, x.disk(t))
	if y := s.state(); y.Pieces != 0 || y.Had != 0 || !slices.Equal(y.Done, []bool{true, true}) {
		t.Errorf("State = %v", y)
	}
	y, ok := build(own, "long pieces", 256, some(1000), some(256), some(257), some(255))
	if !ok {
		t.Fatal("no torrent")
	}
	s, _ = y.byText(t, y.filled(t, 4, 7))
	if z := s.state(); z.Pieces != 8 || z.Had != 2 || !slices.Equal(z.Done, []bool{false, true, false, true}) {
		t.Errorf("State = %v", z)
	}
}
