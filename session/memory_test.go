package session_test

import (
	"bytes"
	"math"
	"math/rand"
	"slices"
	"testing"

	"torrent/api"
	"torrent/session"
)

// spoil writes over a list, and over its spare room.
func spoil[T any](l []T, with T) {
	l = l[:cap(l)]
	for i := range l {
		l[i] = with
	}
}

// spoilActs writes over acts, and over what they let go.
func spoilActs(l []api.Act) {
	for _, a := range l[:cap(l)] {
		spoil(a.Data, 0xee)
	}
	spoil(l, api.Act{Kind: 77, Peer: -7})
}

// spoilAll writes over all that can be asked of a session.
func spoilAll(s *session.Session) {
	spoil(s.Have(), 0xee)
	spoil(s.Peers(), -7)
	l := s.Answers()
	for _, a := range l {
		spoil(a.Hashes, api.Hash{0xee})
	}
	spoil(l, api.Answer{})
	for i := range s.Files() {
		b, _ := s.File(i)
		spoil(b, 0xee)
	}
}

// P0.4, P0.5: bytes that are handed in are not changed and not kept, and answers that are written over are seen nowhere.
func TestMemory(t *testing.T) {
	r := rand.New(rand.NewSource(41))
	for range 60 {
		c := someCrowd(t, r)
		for range 300 {
			switch peer := r.Intn(12); r.Intn(8) {
			case 0, 1:
				l := c.join(peer)
				c.note(l)
				spoilActs(l)
			case 2:
				l := c.tick()
				c.note(l)
				spoilActs(l)
			case 3:
				spoilAll(c.s)
			default:
				if c.mates[peer] == nil {
					continue
				}
				b := c.stream(c.mates[peer])
				was := bytes.Clone(b)
				l := c.bytes(peer, b)
				if !bytes.Equal(b, was) {
					t.Fatal("bytes that were handed in have changed")
				}
				spoil(b, 0xee)
				c.note(l)
				spoilActs(l)
			}
		}
		c.look()
	}
}

// P0.4: the text is not changed and not kept, the first acts are new.
func TestTextIsNotKept(t *testing.T) {
	r := rand.New(rand.NewSource(42))
	for range 20 {
		x := randomTorrent(r)
		text := bytes.Clone(x.text)
		d := x.filled(t, slices.DeleteFunc(x.every(), func(int) bool { return r.Intn(2) == 0 })...)
		s, l, e := session.New(x.sc, text, x.info, us, d)
		if e != api.OK || !bytes.Equal(text, x.text) {
			t.Fatalf("New: %d, or the text has changed", e)
		}
		spoil(text, 0xee)
		spoilActs(l)
		w, _ := x.watched(t, d.Copy())
		w.s, w.d = s, d
		w.seeds(1)
		for i, b := range x.pieces {
			for k := range (len(b) + x.sc.Block - 1) / x.sc.Block {
				w.says(1, x.block(i, k))
			}
		}
	}
}

// P0.5: no two acts of one answer share memory, spare room included.
func TestActsAreApart(t *testing.T) {
	x := whole(t, 64, some(640))
	s, _ := x.start(t, x.disk(t))
	for i := range 8 {
		s.Join(i)
		s.Bytes(i, slices.Concat(x.hello(), wire(x.field(x.every()...))))
	}
	for _, l := range [][]api.Act{
		s.Bytes(3, wire(plainly(api.MsgUnchoke))),
		s.Bytes(3, wire(x.block(0, 0), x.block(1, 0))),
	} {
		if len(l) < 4 {
			t.Fatalf("only %d acts", len(l))
		}
		for i := range l {
			was := make([][]byte, len(l))
			for k := range l {
				was[k] = bytes.Clone(l[k].Data)
			}
			spoil(l[i].Data, 0xee)
			_ = append(l[i].Data, 0xee)
			for k := range l {
				if k != i && !bytes.Equal(l[k].Data, was[k]) {
					t.Fatalf("the acts %d and %d share memory", i, k)
				}
			}
		}
	}
}

// P0.5: two lists of answers have nothing in common, nor have two answers of one list.
func TestAnswersAreApart(t *testing.T) {
	x := bare(t, 64, some(600))
	w := x.begin(t)
	q := w.meetAsked(1)
	next := q
	next.Index = 8
	w.says(1, x.answered(q))
	w.says(1, x.answered(next))
	l, other := w.s.Answers(), w.s.Answers()
	spoil(l[0].Hashes, api.Hash{0xee})
	_ = append(l[0].Hashes, api.Hash{0xee})
	if !slices.Equal(l[1].Hashes, x.answered(next).Hashes) || !slices.Equal(other[0].Hashes, x.answered(q).Hashes) {
		t.Error("answers share memory")
	}
	w.same("Answers", nil, nil)
}

// P0.3: two sessions have nothing to do with each other.
func TestApart(t *testing.T) {
	r := rand.New(rand.NewSource(43))
	for range 10 {
		a, b := someCrowd(t, r), someCrowd(t, r)
		for range 200 {
			a.step()
			b.step()
		}
	}
}

// P0.3: the same calls have the same answers, whatever order a map is gone through in.
func TestSameAnswers(t *testing.T) {
	run := func(seed int64) [][]api.Act {
		c := someCrowd(t, rand.New(rand.NewSource(seed)))
		var l [][]api.Act
		for range 250 {
			peer := c.r.Intn(12)
			var got []api.Act
			switch c.r.Intn(5) {
			case 0:
				got = c.join(peer)
			case 1:
				got = c.tick()
			default:
				if c.mates[peer] != nil {
					got = c.bytes(peer, c.stream(c.mates[peer]))
				}
			}
			c.note(got)
			l = append(l, got)
		}
		return l
	}
	for seed := range int64(20) {
		first := run(seed)
		for range 3 {
			if !slices.EqualFunc(run(seed), first, sameActs) {
				t.Fatal("the same calls, and other answers")
			}
		}
	}
}

// P0.6: a session that is nil, and one that New has not made.
func TestNil(t *testing.T) {
	for _, s := range []*session.Session{nil, new(session.Session)} {
		for _, i := range []int{math.MinInt, -1, 0, 1, math.MaxInt} {
			if len(s.Join(i)) != 0 || len(s.Leave(i)) != 0 || len(s.Bytes(i, []byte{1})) != 0 || len(s.Tick()) != 0 {
				t.Error("acts of no session")
			}
			if b, e := s.File(i); len(b) != 0 || e != api.ErrNil {
				t.Errorf("File = %v, %d", b, e)
			}
		}
		wants(t, "Sync", s.Sync(), api.ErrNil)
		if len(s.Have()) != 0 || s.Files() != 0 || len(s.Answers()) != 0 || len(s.Peers()) != 0 {
			t.Error("something of no session")
		}
	}
}

// P0.1: whatever is handed in, a call ends.
func TestWild(t *testing.T) {
	r := rand.New(rand.NewSource(44))
	numbers := []int{math.MinInt, math.MinInt + 1, -1, 0, 1, 7, math.MaxInt - 1, math.MaxInt}
	for range 50 {
		x := randomTorrent(r)
		w := x.begin(t)
		for range 200 {
			i := numbers[r.Intn(len(numbers))]
			switch r.Intn(6) {
			case 0:
				w.join(i)
			case 1:
				w.leave(i)
			case 2:
				w.bytes(i, content(r, r.Intn(300)))
			case 3:
				w.bytes(i, slices.Concat(x.hello(), content(r, r.Intn(20))))
			case 4:
				w.s.File(i)
			default:
				w.tick()
			}
		}
	}
	for range 200 {
		text := bytes.Clone(randomTorrent(r).text)
		for range r.Intn(4) {
			text[r.Intn(len(text))] ^= 1 << r.Intn(8)
		}
		d := randomTorrent(r).disk(t)
		if s, l, e := session.New(own, text, api.Hash{}, us, d); s != nil || len(l) != 0 || e == api.OK {
			t.Errorf("New = %v, %v, %d", s, l, e)
		}
	}
}
