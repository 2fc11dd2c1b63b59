package journal_test

import (
	"bytes"
	"encoding/binary"
	"math/rand"
	"slices"
	"testing"

	"torrent/api"
	"torrent/disk"
	"torrent/journal"
)

// call is one of the calls that P13.10 speaks of: was it taken, and was it a sync?
type call func(j *journal.Journal) (taken, sync bool)

func syncs(j *journal.Journal) (bool, bool) { return j.Sync() == api.OK, true }

// trims raises the low by n, or as far as can be.
func trims(n int) call {
	return func(j *journal.Journal) (bool, bool) {
		return j.Trim(min(j.Low()+n, j.Last()+1)) == api.OK, false
	}
}

// appends lays a record that no other one is like.
func appends(mark int) call {
	return func(j *journal.Journal) (bool, bool) {
		_, e := j.Append(1+mark%255, bytes.Repeat(binary.BigEndian.AppendUint32(nil, uint32(mark)), 1+mark%9))
		return e == api.OK, false
	}
}

// history is how a journal was at its opening and behind each call that was taken: each of these is one write or one sync.
type history struct {
	states []state
	synced []int // at each of these, how many acts a sync had made last
}

// play makes calls, and notes how the journal is behind each that is taken.
func play(j *journal.Journal, calls ...call) history {
	h := history{[]state{stateOf(j)}, []int{0}}
	for _, c := range calls {
		taken, sync := c(j)
		if !taken {
			continue
		}
		synced := h.synced[len(h.synced)-1]
		if sync {
			synced = len(h.states)
		}
		h.states, h.synced = append(h.states, stateOf(j)), append(h.synced, synced)
	}
	return h
}

func (h history) acts() int { return len(h.states) - 1 }

// left fails the test unless Open finds what the journal had behind some number of its first n acts, the last sync among them.
func (h history) left(t *testing.T, d *disk.Disk, first, count, n int) {
	t.Helper()
	s := stateOf(opened(t, d, first, count))
	if may := h.states[h.synced[n] : n+1]; !slices.ContainsFunc(may, s.same) {
		t.Fatalf("a crash behind %d acts leaves %v; want one of %v", n, s, may)
	}
}

// P13.10: all rows of up to six calls, with all choices of kept writes and of a torn one behind them.
func TestAllCrashes(t *testing.T) {
	kinds := []call{nil, trims(1), trims(99), syncs}
	for _, ahead := range [][]call{
		{},
		{appends(100), appends(101), syncs},
		{appends(100), appends(101), syncs, trims(2), syncs},
		{appends(100), trims(1), syncs, appends(101), trims(2), syncs, appends(102), syncs},
	} {
		for _, count := range []int{3, 4, 5} {
			var row func(calls []call)
			row = func(calls []call) {
				if !crashAllWays(t, count, ahead, calls) || len(calls) == 6 {
					return
				}
				for _, c := range kinds {
					if c == nil {
						c = appends(200 + len(calls))
					}
					row(append(slices.Clone(calls), c))
				}
			}
			row(nil)
		}
	}
}

// crashAllWays lets the disk crash behind a row of calls. It answers false if one of them was refused: a shorter row is the same then.
func crashAllWays(t *testing.T, count int, ahead, calls []call) bool {
	t.Helper()
	d := made(t, count+2)
	j := opened(t, d, 1, count)
	play(j, ahead...)
	h := play(j, calls...)
	if h.acts() < len(calls) {
		return false
	}
	n := len(d.Pending())
	for kept := range 1 << n {
		crashOne(t, d, h, count, keeping(n, kept), -1, 0)
		for torn := range n {
			for _, cut := range []int{1, 5, 11, 60, 63} {
				if kept>>torn&1 == 0 {
					crashOne(t, d, h, count, keeping(n, kept), torn, cut)
				}
			}
		}
	}
	return true
}

func crashOne(t *testing.T, d *disk.Disk, h history, count int, keep []bool, torn, cut int) {
	t.Helper()
	c := d.Copy()
	if e := c.Crash(keep, torn, cut); e != api.OK {
		t.Fatalf("Crash(%v, %d, %d) = %d", keep, torn, cut, e)
	}
	h.left(t, c, 1, count, h.acts())
}

// someCalls is a row of calls, each record of which has a mark of its own.
func someCalls(r *rand.Rand, mark *int) []call {
	var calls []call
	for range r.Intn(25) {
		*mark++
		calls = append(calls, []call{appends(*mark), appends(*mark), appends(*mark), trims(1), trims(1 + r.Intn(6)), syncs}[r.Intn(6)])
	}
	return calls
}

// P13.10, P13.11: long lives of a ring: what was behind one crash is where the next journal begins. A fuse lets the crashes fall anywhere, within Scrub too.
func TestLives(t *testing.T) {
	r := rand.New(rand.NewSource(5))
	mark := 0
	for range 300 {
		first, count := r.Intn(3), 3+r.Intn(8)
		d := made(t, first+count)
		if start := []int{0, 0, 250, 65530, 16777210, 4294967200}[r.Intn(6)]; start > 0 {
			d.Write(first+(start-1)%count, text(start, start, 1, nil))
			d.Sync()
		}
		for range 20 {
			scrubbed(t, r, d, first, count)
			j := opened(t, d, first, count)
			if e := j.Scrub(); e != api.OK || !j.Clean() {
				t.Fatalf("Scrub = %d", e)
			}
			calls := someCalls(r, &mark)
			fuse := r.Intn(len(calls) + 2)
			d.Fuse(fuse)
			h := play(j, calls...)
			crash(t, r, d)
			h.left(t, d, first, count, min(fuse, h.acts()))
		}
	}
}

// crash lets a disk crash at random.
func crash(t *testing.T, r *rand.Rand, d *disk.Disk) {
	t.Helper()
	n := len(d.Pending())
	if e := d.Crash(flips(r, d), r.Intn(n+1)-1, r.Intn(65)); e != api.OK {
		t.Fatalf("Crash = %d", e)
	}
}

// scrubbed lets some Scrubs be broken off by crashes, and fails the test if that, or a second Open, changes what Open answers.
func scrubbed(t *testing.T, r *rand.Rand, d *disk.Disk, first, count int) {
	t.Helper()
	was := stateOf(opened(t, d, first, count))
	for range r.Intn(4) {
		j := opened(t, d, first, count)
		if s := stateOf(j); !s.same(was) {
			t.Fatalf("behind a crash within Scrub there is %v, want %v", s, was)
		}
		d.Fuse(r.Intn(count + 2))
		j.Scrub()
		if s := stateOf(j); !s.same(was) || !j.Clean() {
			t.Fatalf("behind Scrub there is %v, want %v", s, was)
		}
		crash(t, r, d)
	}
}

// P13.11: all ways in which a crash can leave the writes of Scrub, torn at all places; and behind Scrub and behind Sync a crash changes nothing.
func TestScrubCrashes(t *testing.T) {
	d := loaded(t, text(5, 4, 1, []byte("stale")), text(2, 1, 2, nil), text(3, 2, 0, nil), text(8, 7, 3, []byte("lost")))
	was := stateOf(opened(t, d, 0, 4))
	if was.last != 3 || was.low != 2 || len(was.live) != 1 {
		t.Fatalf("the ring holds %v", was)
	}
	for acts := range 4 {
		for kept := range 1 << min(acts, 2) {
			for torn := -1; torn < min(acts, 2); torn++ {
				for cut := range 65 {
					c := d.Copy()
					j := opened(t, c, 0, 4)
					c.Fuse(acts)
					j.Scrub()
					if acts > 2 { // it is synced
						c.Crash(nil, -1, 0)
					} else {
						c.Crash(keeping(2, kept), torn, cut)
					}
					j = opened(t, c, 0, 4)
					if s := stateOf(j); !s.same(was) || acts > 2 && !j.Clean() {
						t.Fatalf("%d acts, kept %b, torn %d at %d: there is %v, want %v", acts, kept, torn, cut, s, was)
					}
				}
			}
		}
	}
	x := begin(t, d, 0, 4)
	x.scrub()
	image := x.d.Image()
	if x.crash(nil, -1, 0); !x.j.Clean() || !bytes.Equal(x.d.Image(), image) {
		t.Error("a crash behind Scrub changes something")
	}
	x.adds(4, 1, "more")
	x.sync()
	image = x.d.Image()
	if x.crash(nil, -1, 0); !x.j.Clean() || !bytes.Equal(x.d.Image(), image) {
		t.Error("a crash behind Sync changes something")
	}
}

// P13.10: a record that is torn over an older one of its slot is there whole or not at all, whichever bytes of their numbers are alike.
func TestTornOverOlder(t *testing.T) {
	for _, count := range []int{3, 4, 255, 256, 257, 1024} {
		for _, start := range []int{1, 200, 65535 - count, 1<<24 - 3} {
			d := made(t, count)
			d.Write((start-1)%count, text(start, start, 1, bytes.Repeat([]byte{1}, 36)))
			d.Sync()
			j := opened(t, d, 0, count)
			for range count - 2 {
				j.Append(2, bytes.Repeat([]byte{2}, 36))
			}
			if e := j.Trim(start + 2); e != api.OK || j.Sync() != api.OK || j.Last() != start+count-1 {
				t.Fatalf("Trim = %d, Last %d", e, j.Last())
			}
			h := play(j, appends(4))
			if l := d.Pending(); !slices.Equal(l, []int{(start - 1) % count}) {
				t.Fatalf("Pending %v: the record does not lie over the oldest one", l)
			}
			for cut := range 65 {
				c := d.Copy()
				c.Crash([]bool{false}, 0, cut)
				h.left(t, c, 0, count, 1)
			}
		}
	}
}

// P13.11: a record beyond a lost one does not come back, whatever is appended later.
func TestNotBack(t *testing.T) {
	for lost := range 5 {
		for more := range 6 {
			d := made(t, 12)
			j := opened(t, d, 0, 12)
			for i := range 6 {
				j.Append(1, []byte{'o', byte(i)})
			}
			keep := slices.Repeat([]bool{true}, 6)
			keep[lost] = false
			d.Crash(keep, -1, 0)
			x := begin(t, d, 0, 12)
			if x.j.Clean() || x.j.Last() != lost {
				t.Fatalf("without the record %d: Last %d, Clean %v", lost+1, x.j.Last(), x.j.Clean())
			}
			x.scrub()
			for i := range more {
				x.adds(lost+1+i, 2, "new")
			}
			x.sync()
			x.crash(nil, -1, 0)
			if !x.j.Clean() || x.j.Last() != lost+more {
				t.Fatalf("without the record %d and with %d more: Last %d", lost+1, more, x.j.Last())
			}
			for _, r := range x.j.Live() {
				if r.Seq > lost && string(r.Data) != "new" {
					t.Fatalf("the old record %d has come back", r.Seq)
				}
			}
		}
	}
}
