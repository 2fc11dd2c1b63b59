package disk_test

import (
	"bytes"
	"math"
	"math/rand"
	"slices"
	"testing"

	"torrent/api"
	"torrent/disk"
)

// act is a write, or a sync if it has no bytes.
type act struct {
	at   int
	data []byte
}

func (a act) on(d *disk.Disk) api.Errno {
	if a.data == nil {
		return d.Sync()
	}
	return d.Write(a.at, a.data)
}

func acts(r *rand.Rand, sectors, n int) []act {
	l := make([]act, n)
	for i := range l {
		if r.Intn(4) > 0 {
			l[i] = act{r.Intn(sectors), content(r, 64)}
		}
	}
	return l
}

// P12.11, P12.13: with a fuse of n a crash leaves what it would have left behind the first n writes and syncs, while who works on sees nothing of it.
func TestFuseIsACrashThen(t *testing.T) {
	r := rand.New(rand.NewSource(20))
	for range 100 {
		ahead, behind := acts(r, 3, r.Intn(6)), acts(r, 3, 12)
		for n := range len(behind) + 2 {
			fused, free, stopped := begin(t, 3).d, begin(t, 3).d, begin(t, 3).d
			for _, a := range ahead {
				a.on(fused)
				a.on(free)
				a.on(stopped)
			}
			if e := fused.Fuse(n); e != api.OK {
				t.Fatalf("Fuse(%d) = %d", n, e)
			}
			for i, a := range behind {
				if a.on(fused) != api.OK || a.on(free) != api.OK || !bytes.Equal(fused.Image(), free.Image()) {
					t.Fatalf("a fuse of %d is seen at the act %d", n, i)
				}
				if i < n {
					a.on(stopped)
				}
			}
			crashAlike(t, r, fused, stopped)
		}
	}
}

// crashAlike crashes both, the second one's unsynced writes being the first ones of the first one.
func crashAlike(t *testing.T, r *rand.Rand, fused, stopped *disk.Disk) {
	t.Helper()
	l, k := fused.Pending(), len(stopped.Pending())
	if len(l) < k || !slices.Equal(l[:k], stopped.Pending()) {
		t.Fatalf("Pending = %v, behind %v", l, stopped.Pending())
	}
	keep, torn, cut := flips(r, len(l)), r.Intn(len(l)+1)-1, r.Intn(65)
	e1 := fused.Crash(keep, torn, cut)
	if torn >= k {
		torn = -1
	}
	e2 := stopped.Crash(keep[:k], torn, cut)
	if e1 != api.OK || e2 != api.OK || !bytes.Equal(fused.Durable(), stopped.Durable()) || !bytes.Equal(fused.Image(), stopped.Durable()) {
		t.Fatalf("Crash = %d, %d: %v, want %v", e1, e2, fused.Durable(), stopped.Durable())
	}
}

// P12.13: a new fuse takes the place of one that is not blown, and of none that is.
func TestFuseUponFuse(t *testing.T) {
	for one := range 5 {
		for between := range 5 {
			for two := range 5 {
				x := begin(t, 2)
				x.write(0, w(1))
				x.fuse(one)
				for i := range between {
					x.write(i%2, w(byte(10+i)))
				}
				x.fuse(two)
				for i := range 5 {
					x.write(i%2, w(byte(20+i)))
				}
				x.crash(slices.Repeat([]bool{true}, 6+between), -1, 0)
			}
		}
	}
}

// P12.13: only writes and syncs that are made count, and a sync counts where nothing is unsynced too.
func TestWhatBurns(t *testing.T) {
	x := begin(t, 1)
	x.fuse(2)
	for range 5 {
		x.write(1, w(1))
		x.write(-1, w(1))
		x.write(0, w(1)[:63])
		x.write(0, nil)
		x.crash([]bool{true}, -1, 0)
		x.crash(nil, 0, 0)
		x.fuse(-1)
		x.fuse(math.MinInt)
		x.d.Copy().Sync()
	}
	x.sync()
	x.write(0, w('a'))
	x.write(0, w('b'))
	x.crash([]bool{true, true}, -1, 0)
	x.readsAs(w('a'))
}

// P12.13: what was unsynced ahead of the fuse is not dead, and is not synced any more once it is blown.
func TestFuseOfNone(t *testing.T) {
	for kept := range 8 {
		x := begun(t)
		x.fuse(0)
		if e := x.fuse(-1); e != api.ErrArg {
			t.Errorf("Fuse(-1) of a blown fuse = %d", e)
		}
		for range 3 {
			if e := x.sync(); e != api.OK || len(x.d.Pending()) != 3 {
				t.Fatalf("Sync = %d, Pending %v", e, x.d.Pending())
			}
		}
		x.crash(keeping(3, kept), -1, 0)
	}
}

// P12.8, P12.13: a crash takes any fuse out, blown or not, and a refused one none.
func TestCrashTakesTheFuse(t *testing.T) {
	for n := range 6 {
		for writes := range 6 {
			x := begin(t, 1)
			x.fuse(n)
			for i := range writes {
				x.write(0, w(byte(1+i)))
			}
			x.crash(make([]bool, writes+1), -1, 0)
			x.crash(make([]bool, writes), -1, 0)
			for i := range 10 {
				x.write(0, w(byte(50+i)))
			}
			x.sync()
			x.crash(nil, -1, 0)
			x.readsAs(w(59))
		}
	}
}

// P12.13: a fuse of very many writes is one that is not blown.
func TestLongFuse(t *testing.T) {
	x := begun(t)
	x.fuse(math.MaxInt)
	x.sync()
	x.write(0, w('d'))
	x.crash([]bool{true}, -1, 0)
	x.readsAs(w('d'), w('c'))
}

// P12.10: a copy has the same fuse, which burns alone, and the same dead writes.
func TestFuseOfACopy(t *testing.T) {
	for n := range 5 {
		x := begin(t, 1)
		x.fuse(n)
		x.write(0, w('a'))
		x.write(0, w('b'))
		c := x.twin()
		for range 3 {
			x.write(0, w('c'))
		}
		c.write(0, w('d'))
		c.write(0, w('e'))
		c.crash(slices.Repeat([]bool{true}, 4), -1, 0)
		x.crash(slices.Repeat([]bool{true}, 5), -1, 0)
	}
}
