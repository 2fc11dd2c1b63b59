package upload_test

import (
	"math/rand"
	"reflect"
	"slices"
	"testing"

	"torrent/api"
	"torrent/upload"
)

// spoil writes over a list, and over its spare room.
func spoil[T any](l []T, with T) {
	l = l[:cap(l)]
	for i := range l {
		l[i] = with
	}
}

// spoilOuts writes over the lists of messages, and over the messages themselves.
func spoilOuts(l []api.Out) {
	for _, o := range l[:cap(l)] {
		spoil(o.Msg.Data, 0xee)
		spoil(o.Msg.Hashes, api.Hash{0xee})
	}
	spoil(l, api.Out{Peer: -7, Msg: api.Msg{Kind: 77}})
}

// P0.4, P18.13: a metainfo that is handed in is not changed and not kept.
func TestMetaIsNotKept(t *testing.T) {
	r := rand.New(rand.NewSource(16))
	for range 40 {
		seed := r.Int63()
		x := some(t, rand.New(rand.NewSource(seed)))
		_, same, _ := someFiles(rand.New(rand.NewSource(seed)))
		m := x.p.m
		if !reflect.DeepEqual(m, same) {
			t.Fatal("the metainfo has changed")
		}
		x.p.m = same
		for i := range m.Files {
			m.Files[i] = api.File{Path: []string{"z"}, Len: 7}
		}
		for _, l := range m.Layers {
			clear(l.Hashes)
		}
		clear(m.Layers)
		for i := range 200 {
			x.step(r, i/3)
		}
	}
}

// P0.5, P18.13: messages that are written over and appended to are seen in no upload, no store and no other answer.
func TestAnswersAreNew(t *testing.T) {
	r := rand.New(rand.NewSource(17))
	for range 40 {
		x := some(t, r)
		x.fillAll()
		x.invite(0, 1, 2)
		for now := range 40 {
			for range 5 {
				x.ask(r, r.Intn(3))
			}
			q := x.query(r)
			one, _ := x.hashes(1, q)
			two, _ := x.hashes(2, q)
			keep := slices.Clone(two.Hashes)
			spoil(one.Hashes, api.Hash{0xee})
			if !slices.Equal(keep, two.Hashes) {
				t.Fatal("two answers share memory")
			}
			spoil(two.Hashes, api.Hash{0xee})
			spoilOuts(x.tick(now))
		}
		for i, b := range x.b {
			if got, e := x.s.Read(i, 0, len(b)); e != api.OK || !slices.Equal(got, b) {
				t.Fatalf("the store reads %v, %d", got, e)
			}
		}
	}
}

// P0.5, P18.13: the messages of one tick share no memory, spare room included.
func TestMessagesAreApart(t *testing.T) {
	x := three(t)
	x.invite(4, 5)
	x.tick(0)
	for i := range 4 {
		for _, peer := range []int{4, 5} {
			x.request(peer, 0, i/2, 64-i%2)
		}
	}
	l := x.tick(1)
	if len(l) != 8 {
		t.Fatalf("%d messages", len(l))
	}
	for i := range l {
		spoil(l[i].Msg.Data, 0xee)
		_ = append(l[i].Msg.Data, 0xee)
		for _, o := range l[i+1:] {
			if !slices.Equal(o.Msg.Data, x.b[0][o.Msg.Begin:o.Msg.Begin+len(o.Msg.Data)]) {
				t.Fatalf("the message %d was written over, and another one has changed", i)
			}
		}
	}
}

// P18.13: what was learned is a copy: hashes are values, and an answer that is written over does not change what is known.
func TestRowIsApart(t *testing.T) {
	x := three(t)
	x.join(4)
	q := api.Query{Root: x.p.m.Files[0].Root, Base: 1, Length: 4}
	for range 3 {
		m, _ := x.hashes(4, q)
		spoil(m.Hashes, api.Hash{0xee})
	}
}

// P0.3: two uploads of one metainfo and one store have nothing to do with each other.
func TestApart(t *testing.T) {
	r := rand.New(rand.NewSource(18))
	for range 10 {
		a := some(t, r)
		b := begin(t, a.sc, a.p.m, a.shelf)
		for now := range 300 {
			a.step(r, now/3)
			b.look()
			b.step(r, now/3)
			a.look()
		}
	}
}

// P0.3: the same calls have the same answers.
func TestSameAnswers(t *testing.T) {
	type said struct {
		e api.Errno
		n int
	}
	run := func() []said {
		r := rand.New(rand.NewSource(19))
		x := some(t, r)
		var l []said
		for now := range 500 {
			e, n := x.step(r, now/3)
			l = append(l, said{e, n})
		}
		return l
	}
	first := run()
	for range 5 {
		if !slices.Equal(run(), first) {
			t.Fatal("the same calls, and other answers")
		}
	}
}

// P0.6, P18.13: an upload that is nil, and one that New has not made.
func TestNil(t *testing.T) {
	for _, u := range []*upload.Upload{nil, new(upload.Upload)} {
		for _, i := range []int{-1, 0, 4, 100} {
			if l := u.Tick(i); len(l) != 0 {
				t.Errorf("Tick = %v", l)
			}
			wants(t, "Join", u.Join(i), api.ErrNil)
			wants(t, "Leave", u.Leave(i), api.ErrNil)
			wants(t, "Interest", u.Interest(i, true), api.ErrNil)
			wants(t, "Credit", u.Credit(i, i), api.ErrNil)
			wants(t, "Request", u.Request(i, i, i, i), api.ErrNil)
			wants(t, "Cancel", u.Cancel(i, i, i, i), api.ErrNil)
			wants(t, "Learn", u.Learn(i, api.Hash{}), api.ErrNil)
			if on, e := u.Open(i); on || e != api.ErrNil {
				t.Errorf("Open = %v, %d", on, e)
			}
			if m, e := u.Hashes(i, api.Query{Base: i}); !sameMsg(m, api.Msg{}) || e != api.ErrNil {
				t.Errorf("Hashes = %v, %d", m, e)
			}
		}
	}
}
