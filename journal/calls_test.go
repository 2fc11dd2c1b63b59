package journal_test

import (
	"math"
	"math/rand"
	"slices"
	"testing"

	"torrent/api"
)

// calls makes one call or another, that may be taken or refused, and now and then a few to one end.
func (x *watch) calls(r *rand.Rand) {
	x.t.Helper()
	switch r.Intn(12) {
	case 0, 1, 2, 3, 4:
		x.append(1+r.Intn(255), content(r, r.Intn(37)))
	case 5:
		kinds := []int{math.MinInt, -256, -1, 0, 1, 255, 256, 257, 512, math.MaxInt}
		x.append(kinds[r.Intn(len(kinds))], content(r, r.Intn(40)))
	case 6, 7:
		x.trim(x.p.low + 1 + r.Intn(max(1, x.p.last-x.p.low+1)))
	case 8:
		odd := []int{math.MinInt, -1, 0, 1, x.p.low - 1, x.p.low, x.p.low + 1, x.p.last, x.p.last + 1, x.p.last + 2, math.MaxInt}
		x.trim(odd[r.Intn(len(odd))])
	case 9, 10:
		x.sync()
	case 11:
		x.scrub()
	}
}

// P13.3 to P13.9: random rows of calls, with crashes, fuses, openings and foreign writes among them, beside the plain journal.
func TestRows(t *testing.T) {
	r := rand.New(rand.NewSource(2))
	for range 600 {
		first, count := r.Intn(3), 3+r.Intn(6)
		d := made(t, first+count+r.Intn(3))
		if start := []int{0, 0, 254, 65533, 4294967270, 4294967293}[r.Intn(6)]; start > 0 {
			d.Write(first+(start-1)%count, text(start, start, 1, []byte("begin")))
		}
		x := begin(t, d, first, count)
		for range 80 {
			switch r.Intn(20) {
			default:
				x.calls(r)
			case 0:
				x.crash(flips(r, x.d), -1, 0)
			case 1:
				n := len(x.d.Pending())
				x.crash(flips(r, x.d), r.Intn(n+1)-1, r.Intn(65))
			case 2:
				x.fuse(r.Intn(8))
			case 3:
				x.open()
			case 4:
				x.lay(r.Intn(x.d.Size()), content(r, 64))
			}
		}
		fill(x)
	}
}

// flips keeps some of a disk's unsynced writes.
func flips(r *rand.Rand, d interface{ Pending() []int }) []bool {
	keep := make([]bool, len(d.Pending()))
	for i := range keep {
		keep[i] = r.Intn(3) > 0
	}
	return keep
}

// fill makes as many Appends as there is Room for; the next one is refused.
func fill(x *watch) {
	x.t.Helper()
	for n := x.j.Room(); n > 0; n-- {
		x.adds(x.j.Last()+1, 3, "fill")
		if x.j.Room() != n-1 {
			x.t.Fatalf("Room %d behind an Append at %d", x.j.Room(), n)
		}
	}
	if n, e := x.append(3, nil); n != 0 || e == api.OK {
		x.t.Fatalf("Append without Room = %d, %d", n, e)
	}
}

// P13.5: which kinds and data there may be; an edge in each.
func TestKinds(t *testing.T) {
	for kind := -2; kind < 260; kind++ {
		for _, size := range []int{0, 1, 35, 36, 37, 64, 1000} {
			x := fresh(t)
			want := api.OK
			if kind < 1 || kind > 255 || size > 36 {
				want = api.ErrRecord
			}
			if _, e := x.append(kind, make([]byte, size)); e != want {
				t.Fatalf("Append(%d, %d bytes) = %d, want %d", kind, size, e, want)
			}
		}
	}
}

// P13.5, P13.6: which error comes first: ErrStale, ErrRecord or ErrTrim, ErrWorn, ErrFull.
func TestOrderOfErrors(t *testing.T) {
	const last = 4294967295
	wrong := make([]byte, 37)
	d := made(t, 3)
	for n := last - 2; n <= last; n++ { // full, too
		d.Write((n-1)%3, text(n, last-2, 1, nil))
	}
	x := begin(t, d, 0, 3)
	if n, e := x.append(0, nil); n != 0 || e != api.ErrRecord {
		t.Errorf("a foreign kind, worn and full: Append = %d, %d", n, e)
	}
	if n, e := x.append(1, nil); n != 0 || e != api.ErrWorn {
		t.Errorf("worn and full: Append = %d, %d", n, e)
	}
	if e := x.trim(last - 2); e != api.ErrTrim {
		t.Errorf("a low that is there already, worn and full: Trim = %d", e)
	}
	for _, to := range []int{last - 1, last, last + 1} {
		if e := x.trim(to); e != api.ErrWorn {
			t.Errorf("worn and full: Trim(%d) = %d", to, e)
		}
	}
	if e := x.trim(last + 2); e != api.ErrTrim {
		t.Errorf("past all numbers: Trim = %d", e)
	}

	x = full(t)
	if n, e := x.append(1, wrong); n != 0 || e != api.ErrRecord {
		t.Errorf("too much data, full: Append = %d, %d", n, e)
	}
	x.trim(2)
	if e := x.trim(2); e != api.ErrTrim {
		t.Errorf("a low that is there already, full: Trim = %d", e)
	}

	d = made(t, 4)
	d.Write((last-1)%4, text(last, last, 1, nil))
	d.Write(last%4, text(7, 7, 1, nil))
	x = begin(t, d, 0, 4)
	for _, kind := range []int{0, 1} {
		if n, e := x.append(kind, wrong); n != 0 || e != api.ErrStale {
			t.Errorf("stale: Append = %d, %d", n, e)
		}
	}
	for _, to := range []int{0, last + 1, last + 2} {
		if e := x.trim(to); e != api.ErrStale {
			t.Errorf("stale: Trim(%d) = %d", to, e)
		}
	}
	if x.scrub(); x.j.Room() != 0 {
		t.Errorf("worn: Room %d", x.j.Room())
	}
}

// P13.3, P13.4: Scrub wipes what is stale now, from the lowest on, and syncs, even if nothing is; on a clean journal it does nothing.
func TestScrub(t *testing.T) {
	stale := func() *watch {
		d := made(t, 9)
		d.Write(2, content(rand.New(rand.NewSource(3)), 64))
		d.Write(4, text(5, 5, 1, []byte("kept"))) // first 0, count 8
		d.Write(7, text(3, 3, 1, nil))
		d.Sync()
		return begin(t, d, 0, 8)
	}
	x := stale()
	x.lay(0, text(1, 1, 1, nil))
	x.lay(7, make([]byte, 64))
	x.lay(8, text(1, 1, 1, nil)) // beyond the ring
	x.lay(4, make([]byte, 64))   // what is kept is kept in mind, and its slot left alone
	if x.wants(5, 5, 5); x.j.Clean() {
		t.Error("Clean ahead of Scrub")
	}
	x.fuse(0)
	if e := x.scrub(); e != api.OK || !slices.Equal(x.d.Pending(), []int{0, 7, 8, 4, 0, 2}) || !x.j.Clean() {
		t.Errorf("Scrub = %d, Pending %v", e, x.d.Pending())
	}

	x = stale()
	x.lay(2, make([]byte, 64))
	x.lay(7, make([]byte, 64))
	x.look()
	if x.j.Clean() || x.j.Room() != 0 {
		t.Error("Clean, without Scrub")
	}
	if e := x.scrub(); e != api.OK || len(x.d.Pending()) != 0 || !x.j.Clean() || x.j.Room() != 6 {
		t.Errorf("Scrub of nothing = %d, Pending %v, Room %d", e, x.d.Pending(), x.j.Room())
	}
	x.adds(6, 1, "more")
	x.trim(6)
	x.lay(0, text(1, 1, 1, nil))
	if e := x.scrub(); e != api.OK || len(x.d.Pending()) != 3 || x.j.Room() != 4 {
		t.Errorf("Scrub of a clean journal = %d, Pending %v, Room %d", e, x.d.Pending(), x.j.Room())
	}
}

// P13.7, P13.9: a journal that isn't clean answers and syncs as well.
func TestUncleanAnswers(t *testing.T) {
	x := trimmed(t)
	x.open()
	x.lay(0, content(rand.New(rand.NewSource(4)), 64))
	if x.wants(3, 4, 3); x.j.Clean() || x.j.Room() != 0 {
		t.Errorf("Clean %v, Room %d", x.j.Clean(), x.j.Room())
	}
	if e := x.sync(); e != api.OK || len(x.d.Pending()) != 0 || x.j.Clean() {
		t.Errorf("Sync = %d, Pending %v", e, x.d.Pending())
	}
	x.scrub()
	x.wants(3, 4, 3)
}

// P13.8: a Trim frees nothing until the journal is synced; where it has taken the last free sector, Sync brings one back.
func TestSpace(t *testing.T) {
	for count := 3; count < 9; count++ {
		for trims := 1; trims < count; trims++ {
			x := begin(t, made(t, count), 0, count)
			for n := 1; n < count; n++ {
				if x.j.Room() != count-n {
					t.Fatalf("Room %d of %d behind %d records", x.j.Room(), count, n-1)
				}
				x.adds(n, 1, "x")
			}
			if e := x.trim(1 + trims); e != api.OK || x.j.Room() != 0 {
				t.Fatalf("Trim(%d) = %d, Room %d", 1+trims, e, x.j.Room())
			}
			if _, e := x.append(1, nil); e != api.ErrFull {
				t.Fatalf("Append ahead of Sync = %d", e)
			}
			x.trim(x.j.Last())
			x.d.Sync() // the disk's own sync is not the journal's
			x.p.d.Sync()
			if x.look(); x.j.Room() != 0 {
				t.Fatalf("Room %d without the journal's Sync", x.j.Room())
			}
			if x.sync(); x.j.Room() != trims-1 {
				t.Fatalf("Room %d behind Trim(%d) and Sync", x.j.Room(), 1+trims)
			}
			x.open()
			if x.j.Clean() || x.j.Room() != 0 {
				t.Fatalf("trimmed records are not stale to a new journal: Room %d", x.j.Room())
			}
			if x.scrub(); x.j.Room() != trims-1 {
				t.Fatalf("Room %d behind Scrub", x.j.Room())
			}
			fill(x)
		}
	}
}

// P13.5, P13.6, P13.8: near the last number the Room is what is left of the numbers, and a Trim takes one too.
func TestLastNumbers(t *testing.T) {
	const last = 4294967295
	for back := range 9 {
		d := made(t, 12)
		d.Write((last-back-1)%12, text(last-back, last-back, 1, nil))
		x := begin(t, d, 0, 12)
		if x.j.Room() != min(10, back) {
			t.Errorf("%d numbers are left: Room %d", back, x.j.Room())
		}
		if back > 0 {
			x.trim(last - back + 1)
			x.sync()
			if x.j.Room() != back-1 {
				t.Errorf("%d numbers are left: Room %d", back-1, x.j.Room())
			}
		}
		fill(x)
		x.wants(x.j.Low(), last, liveOf(x)...)
		if _, e := x.append(1, nil); e != api.ErrWorn {
			t.Errorf("behind the last number: Append = %d", e)
		}
		if e := x.trim(last + 1); e != api.ErrWorn {
			t.Errorf("behind the last number: Trim = %d", e)
		}
		x.open()
	}
}

// liveOf are the numbers of the records that the plain journal has.
func liveOf(x *watch) []int {
	var l []int
	for _, r := range x.p.live {
		l = append(l, r.Seq)
	}
	return l
}
