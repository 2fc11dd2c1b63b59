package journal_test

import (
	"bytes"
	"math/rand"
	"slices"
	"testing"

	"torrent/api"
	"torrent/disk"
	"torrent/journal"
)

// spoil writes over a list and its spare room.
func spoil(b []byte) {
	b = b[:cap(b)]
	for i := range b {
		b[i] ^= 255
	}
}

// P0.4, P13.12: data that is handed in is not changed, its spare room neither, and not kept.
func TestArguments(t *testing.T) {
	r := rand.New(rand.NewSource(6))
	for n := range 37 {
		x := fresh(t)
		for range 3 {
			b := content(r, 80)
			was := slices.Clone(b)
			x.append(1, b[:n])
			if !bytes.Equal(b, was) {
				t.Fatal("what was handed in has changed")
			}
			spoil(b)
			x.look()
			x.trim(x.j.Last())
			x.sync()
			if spoil(b); !bytes.Equal(b, was) {
				t.Fatal("what was handed in was kept, and has changed")
			}
		}
	}
}

// P0.5, P13.12: answers that are written over and appended to are seen in no journal, on no disk and in no other answer.
func TestAnswers(t *testing.T) {
	r := rand.New(rand.NewSource(7))
	for range 100 {
		x := begin(t, made(t, 9), 0, 9)
		for range 40 {
			x.calls(r)
			if r.Intn(10) == 0 {
				x.open()
			}
			l, other := x.j.Live(), x.j.Live()
			for i := range l {
				for k := range l {
					if was := slices.Clone(l[k].Data); k != i {
						spoil(l[i].Data)
						_ = append(l[i].Data, 1, 2, 3)
						if !bytes.Equal(l[k].Data, was) {
							t.Fatal("two lists of one answer share memory")
						}
					}
				}
				spoil(l[i].Data)
			}
			clear(l[:cap(l)])
			_ = append(l[:0], api.Record{Seq: 99}, api.Record{Seq: 99})
			if s := (state{x.p.low, x.p.last, other}); !s.same(state{x.p.low, x.p.last, x.p.live}) {
				t.Fatal("an answer was written over, and another one has changed")
			}
			x.look()
		}
	}
}

// P0.5: the room behind the answers is their own.
func TestSpareRoom(t *testing.T) {
	x := begin(t, made(t, 20), 0, 20)
	for n := range 12 {
		x.adds(n+1, 5, "abcde"[:n%6])
	}
	x.trim(4)
	l, other := x.j.Live(), x.j.Live()
	for i := range l {
		spoil(l[i].Data[:0])
	}
	for i := range l[:cap(l)] {
		l[:cap(l)][i] = api.Record{Seq: 99}
	}
	x.look()
	x.adds(14, 5, "more")
	if len(other) != 9 || other[8].Seq != 12 || string(other[7].Data) != "abcd" {
		t.Errorf("another answer has changed: %v", other)
	}
}

// P0.3: journals on two disks have nothing to do with each other, nor two rings on one disk but for its syncs.
func TestApart(t *testing.T) {
	r := rand.New(rand.NewSource(8))
	a, b := begin(t, made(t, 5), 0, 5), begin(t, made(t, 5), 0, 5)
	for range 300 {
		a.calls(r)
		b.look()
		b.calls(r)
		a.look()
	}
	d := made(t, 9)
	one, two := opened(t, d, 0, 4), opened(t, d, 4, 5)
	one.Append(1, []byte("one"))
	two.Append(2, []byte("two"))
	two.Trim(2)
	if one.Sync() != api.OK || len(d.Pending()) != 0 {
		t.Error("Sync does not sync the whole disk")
	}
	if s := stateOf(one); !s.same(state{1, 1, []api.Record{{Seq: 1, Kind: 1, Data: []byte("one")}}}) || two.Low() != 2 || two.Room() != 2 {
		t.Errorf("the one: %v; the other: Low %d, Room %d", s, two.Low(), two.Room())
	}
}

// P0.6, P13.12: a journal that is nil, and one that Open has not made.
func TestNil(t *testing.T) {
	for _, j := range []*journal.Journal{nil, new(journal.Journal)} {
		for _, kind := range []int{0, 1, 256} {
			if n, e := j.Append(kind, make([]byte, 40)); n != 0 || e != api.ErrNil {
				t.Errorf("Append = %d, %d", n, e)
			}
			if e := j.Trim(kind); e != api.ErrNil {
				t.Errorf("Trim = %d", e)
			}
		}
		if e1, e2 := j.Sync(), j.Scrub(); e1 != api.ErrNil || e2 != api.ErrNil {
			t.Errorf("Sync = %d, Scrub = %d", e1, e2)
		}
		if j.Clean() || len(j.Live()) != 0 || j.Low() != 0 || j.Last() != 0 || j.Room() != 0 {
			t.Errorf("Clean %v, Live %v, Low %d, Last %d, Room %d", j.Clean(), j.Live(), j.Low(), j.Last(), j.Room())
		}
	}
}

// P0.1, P0.2: where the disk has lost its sectors, the disk's error comes up, and the journal is as it was.
func TestShrunk(t *testing.T) {
	d := made(t, 5)
	j := opened(t, d, 0, 5)
	j.Append(1, []byte("a"))
	was, room := stateOf(j), j.Room()
	*d = disk.Disk{}
	if n, e := j.Append(1, nil); n != 0 || e != api.ErrSector {
		t.Errorf("Append = %d, %d", n, e)
	}
	if e := j.Trim(2); e != api.ErrSector {
		t.Errorf("Trim = %d", e)
	}
	if s := stateOf(j); !s.same(was) || j.Room() != room || !j.Clean() {
		t.Errorf("there is %v, want %v; Room %d", s, was, j.Room())
	}
}
