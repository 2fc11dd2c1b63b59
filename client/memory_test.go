package client_test

import (
	"bytes"
	"math"
	"math/rand"
	"runtime"
	"slices"
	"testing"

	"torrent/api"
	"torrent/client"
	"torrent/disk"
)

// P0.6: a client that is nil, and one that New has not made.
func TestNil(t *testing.T) {
	x := one(t)
	for _, c := range []*client.Client{nil, new(client.Client)} {
		refused(t, "AddText", addText(c, x.text, x.disk(t)), api.ErrNil)
		refused(t, "AddText of nothing", addText(c, nil, nil), api.ErrNil)
		refused(t, "AddLink", addLink(c, x.link(""), x.disk(t)), api.ErrNil)
		refused(t, "AddLink of nothing", addLink(c, "", nil), api.ErrNil)
		if len(c.Torrents()) != 0 {
			t.Error("torrents of no client")
		}
		for _, n := range []int{math.MinInt, -1, 0, 1, math.MaxInt} {
			asksNothing(t, c, n, api.ErrNil)
			if len(c.Join(n, 0)) != 0 || len(c.Leave(n, 0)) != 0 || len(c.Bytes(n, 0, []byte{1})) != 0 || len(c.Tick(n)) != 0 {
				t.Error("acts of no client")
			}
		}
	}
}

// spoil writes over a list, and over its spare room.
func spoil[T any](l []T, with T) {
	l = l[:cap(l)]
	for i := range l {
		l[i] = with
	}
}

// spoilActs writes over acts, and over what they let go.
func spoilActs(l []api.Act) {
	for _, a := range l[:cap(l)] {
		spoil(a.Data, 0xee)
	}
	spoil(l, api.Act{Kind: 77, Peer: -7})
}

// spoilAll writes over all that can be asked about a torrent.
func spoilAll(c *client.Client, n int) {
	spoil(c.Torrents(), -7)
	s, _ := c.State(n)
	spoil(s.Peers, -7)
	for i := range s.Done {
		b, _ := c.File(n, i)
		spoil(b, 0xee)
	}
	spoil(s.Done[:cap(s.Done)], true)
	b, _ := c.Text(n)
	spoil(b, 0xee)
	l, _ := c.Answers(n)
	for _, a := range l {
		spoil(a.Hashes, api.Hash{0xee})
	}
	spoil(l, api.Answer{})
}

// P0.4, P0.5: bytes that are handed in are not changed and not kept, and answers that are written over are seen nowhere.
func TestMemory(t *testing.T) {
	for seed := range int64(60) {
		c := newCrowd(t, 1000+seed)
		for range 300 {
			n, peer := c.some(), c.r.Intn(11)
			x := c.mates[[2]int{n, peer}]
			switch k := c.r.Intn(10); {
			case len(c.in) == 0 || k == 9 && c.r.Intn(10) == 0:
				c.add()
			case k == 0:
				l := c.join(n, peer)
				c.note(n, l)
				spoilActs(l)
			case k == 1:
				l := c.tick(n)
				c.note(n, l)
				spoilActs(l)
			case k == 2:
				spoilAll(c.watch.c, n)
			case x != nil:
				b := c.stream(c.in[n], x)
				was := bytes.Clone(b[:cap(b)])
				l := c.bytes(n, peer, b)
				if !bytes.Equal(b[:cap(b)], was) {
					t.Fatal("bytes that were handed in have changed")
				}
				spoil(b, 0xee)
				c.note(n, l)
				spoilActs(l)
			}
		}
		c.end()
	}
}

// P0.4: a text is not changed and not kept, nor its spare room.
func TestTextIsNotKept(t *testing.T) {
	x := one(t)
	text := append(bytes.Clone(x.text), "spare"...)[:len(x.text)]
	was := bytes.Clone(text[:cap(text)])
	c := none(t, own)
	if _, _, e := c.AddText(text, x.disk(t)); e != api.OK || !bytes.Equal(text[:cap(text)], was) {
		t.Fatalf("AddText: %d, or the text has changed", e)
	}
	spoil(text, 0xee)
	s := &single{torrent: x, t: t, c: c}
	if b, e := c.Text(0); e != api.OK || !bytes.Equal(b, x.text) {
		t.Errorf("Text = %q, %d", b, e)
	}
	s.meets(2)
	acts(t, "a part", s.says(2, ext(0, wishText(3, 0)), ext(1, askText(0))), sends(2, ext(3, x.part(0))))
}

// P0.5: no two acts of one answer share memory, spare room included.
func TestActsAreApart(t *testing.T) {
	x := made(t, "t", some(640))
	r := x.running(t)
	r.meets(1)
	r.says(1, ext(0, wishText(3, 0)))
	for _, l := range [][]api.Act{
		lastBeat(x.waiting(t)),
		r.says(1, ext(1, askText(0)), ext(1, askText(1)), ext(1, askText(0))),
		r.says(1, wire(x.field(x.every()...), plainly(api.MsgUnchoke)), ext(1, askText(9)), ext(1, askText(8))),
	} {
		for i := range l {
			was := make([][]byte, len(l))
			for k := range l {
				was[k] = bytes.Clone(l[k].Data)
			}
			spoil(l[i].Data, 0xee)
			_ = append(l[i].Data, 0xee)
			for k := range l {
				if k != i && !bytes.Equal(l[k].Data, was[k]) {
					t.Fatalf("the acts %d and %d share memory", i, k)
				}
			}
		}
	}
}

// lastBeat is what eight peers that have offered are told at the eighth tick.
func lastBeat(s *single) []api.Act {
	for i := range 8 {
		s.offers(i)
	}
	s.ticks(7)
	l := s.c.Tick(0)
	if len(l) != 16 {
		s.t.Fatalf("the eighth tick: %s", shown(l))
	}
	return l
}

// P0.5: texts and states are new memory each time, in each phase.
func TestAnswersAreApart(t *testing.T) {
	x, y := one(t), lone(own, []byte("de"))
	s := y.byLink(t, sectors(t, 9))
	s.offers(2)
	s.says(2, s.last())
	s.phase("bad", api.PhaseBad, api.ErrMetaShape)
	for _, s := range []*single{s, x.waiting(t), x.running(t)} {
		if s.state().Phase != api.PhaseBad {
			s.join(4)
			s.join(7)
		}
		was := s.state()
		text, e := s.c.Text(0)
		text = bytes.Clone(text)
		spoilAll(s.c, 0)
		now := s.state()
		if !slices.Equal(now.Peers, was.Peers) || !slices.Equal(now.Done, was.Done) {
			t.Errorf("State = %v, was %v", now, was)
		}
		if b, f := s.c.Text(0); !bytes.Equal(b, text) || e != f {
			t.Errorf("Text = %q, %d", b, f)
		}
		if l := s.c.Torrents(); !slices.Equal(l, []int{0}) {
			t.Errorf("Torrents = %v", l)
		}
	}
}

// P0.3: the same calls have the same answers, whatever order a map is gone through in.
func TestSameAnswers(t *testing.T) {
	run := func(seed int64) [][]api.Act {
		c := newCrowd(t, seed)
		var l [][]api.Act
		for range 250 {
			n, peer := c.some(), c.r.Intn(11)
			x := c.mates[[2]int{n, peer}]
			var got []api.Act
			switch k := c.r.Intn(8); {
			case len(c.in) == 0:
				c.add()
			case k < 2:
				got = c.watch.c.Join(n, peer)
			case k < 3:
				got = c.watch.c.Tick(n)
			case x != nil:
				got = c.watch.c.Bytes(n, peer, c.stream(c.in[n], x))
			}
			c.note(n, got)
			l = append(l, got)
		}
		return l
	}
	for seed := range int64(20) {
		first := run(seed)
		for range 3 {
			if !slices.EqualFunc(run(seed), first, sameActs) {
				t.Fatal("the same calls, and other answers")
			}
		}
	}
}

// P0.3: two clients have nothing to do with each other.
func TestClientsApart(t *testing.T) {
	for seed := range int64(10) {
		a, b := newCrowd(t, 2000+seed), newCrowd(t, 2000+seed)
		for range 300 {
			a.step()
			b.step()
		}
		a.end()
		b.end()
	}
}

// P0.1: whatever is handed in, a call ends.
func TestWild(t *testing.T) {
	r := rand.New(rand.NewSource(61))
	numbers := []int{math.MinInt, math.MinInt + 1, -1, 0, 1, 7, math.MaxInt - 1, math.MaxInt}
	some := func() int { return numbers[r.Intn(len(numbers))] }
	for range 50 {
		x := one(t)
		s := []func(*testing.T) *single{x.waiting, x.running}[r.Intn(2)](t)
		for range 200 {
			n, peer := some(), some()
			if r.Intn(3) > 0 {
				n = 0
			}
			switch r.Intn(9) {
			case 0, 1:
				s.c.Join(n, peer)
			case 2:
				s.c.Leave(n, peer)
			case 3:
				s.c.Bytes(n, peer, content(r, r.Intn(300)))
			case 4:
				s.c.Bytes(n, peer, slices.Concat(x.able(), content(r, r.Intn(20))))
			case 5:
				s.c.Bytes(n, peer, slices.Concat(ext(r.Intn(3), string(content(r, r.Intn(20)))), ext(1, askText(r.Intn(9))), ext(1, noText(math.MaxInt)), ext(1, dataText(math.MaxInt, 1, nil))))
			case 6:
				s.c.File(n, some())
			case 7:
				s.c.State(n)
			default:
				s.c.Tick(n)
			}
		}
	}
}

// P0.1: two torrents on one disk, of which nothing is promised, still end.
func TestOneDisk(t *testing.T) {
	x, y := one(t), made(t, "two", some(500))
	d := y.disk(t)
	c := none(t, own)
	all := []*torrent{x, y, flat(t)}
	for _, z := range all {
		c.AddLink(z.link(""), d)
	}
	for n, z := range all {
		c.Join(n, 2)
		c.Bytes(n, 2, slices.Concat(z.able(), wire(z.field(z.every()...), plainly(api.MsgUnchoke)), ext(0, wishText(3, len(z.dict)))))
		for i := range z.parts() {
			c.Bytes(n, 2, ext(1, z.part(i)))
		}
	}
	again := none(t, own)
	again.AddText(x.text, d)
	again.AddText(y.text, d)
	for i := range 8 {
		for n, z := range all {
			if i < len(z.pieces) {
				c.Bytes(n, 2, wire(z.block(i, 0)))
				again.Bytes(n, 2, wire(z.block(i, 0)))
			}
			c.Sync(n)
			c.State(n)
			c.File(n, 0)
		}
	}
}

// stays is how many bytes of memory are held more behind f than ahead of it.
func stays(f func()) int {
	var before, after runtime.MemStats
	runtime.GC()
	runtime.ReadMemStats(&before)
	f()
	runtime.GC()
	runtime.ReadMemStats(&after)
	return int(after.HeapAlloc) - int(before.HeapAlloc)
}

// P0.1, P24.8: who tells very much takes little room.
func TestWishesTakeNoRoom(t *testing.T) {
	x := one(t)
	for what, s := range both(t, x) {
		s.meets(2)
		n := stays(func() {
			for i := range 1000 {
				s.says(2, ext(0, "d1:md11:ut_metadatai3ee4:spam"+num(20000)+":"+string(make([]byte, 20000))+"e"), ext(0, "d1:md"+num(1000+len(num(i)))+":"+num(i)+string(make([]byte, 1000))+"i7eee"))
			}
		})
		if n > 200<<10 {
			t.Errorf("%s: %d bytes stay", what, n)
		}
		s.peers(what, 2)
		acts(t, what, s.says(2, ext(1, askText(77))), sends(2, ext(3, noText(77))))
	}
}

// P24.4, P24.9, P24.11: what waited is let go at the turn, with the connection and with the torrent.
func TestBacklogIsLetGo(t *testing.T) {
	x := one(t)
	long := framed(slices.Concat([]byte{90}, make([]byte, 32000))) // of a kind that may be passed over
	for what, end := range map[string]func(s *single){
		"Leave": func(s *single) {
			for i := range 7 {
				s.leave(i)
			}
		},
		"Remove": func(s *single) { s.c.Remove(0) },
		"the turn": func(s *single) {
			s.offers(9)
			s.given(9)
			s.says(9, s.last())
		},
	} {
		s := x.waiting(t)
		n := stays(func() {
			for i := range 7 {
				s.meets(i)
				for range 60 {
					s.says(i, long)
				}
			}
			s.peers(what, 0, 1, 2, 3, 4, 5, 6)
			end(s)
		})
		if n > 2<<20 {
			t.Errorf("%s: %d bytes stay", what, n)
		}
		runtime.KeepAlive(s)
	}
}

// P0.4: a disk is used, and it alone is written to: the waiting torrent's when the session starts.
func TestDiskIsUsed(t *testing.T) {
	x := one(t)
	s := x.waiting(t)
	other := s.d.Copy()
	s.offers(2)
	s.given(2)
	untouched(t, "waiting", s.d, other)
	s.says(2, s.last())
	w := other.Copy()
	x.sessionOn(t, x.bare, w)
	untouched(t, "running", s.d, w)
}

// sessionOn starts a session on a disk.
func (x *torrent) sessionOn(t *testing.T, text []byte, d *disk.Disk) {
	t.Helper()
	y := *x
	y.text = text
	y.byText(t, d)
}
