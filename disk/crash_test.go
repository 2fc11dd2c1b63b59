package disk_test

import (
	"bytes"
	"math"
	"math/rand"
	"slices"
	"testing"

	"torrent/api"
)

// written is a disk of two sectors that last as 1 and 2, with n unsynced writes of 10, 11, ..: a bit says to which sector.
func written(t *testing.T, n, bits int) *watch {
	t.Helper()
	x := begin(t, 2)
	x.write(0, w(1))
	x.write(1, w(2))
	x.sync()
	for i := range n {
		x.write(bits>>i&1, w(byte(10+i)))
	}
	return x
}

// P12.8: all rows of up to four writes to two sectors, kept in all ways and torn at all places.
func TestAllCrashes(t *testing.T) {
	for n := range 5 {
		for bits := range 1 << n {
			first := written(t, n, bits)
			for kept := range 1 << n {
				for torn := -1; torn < n; torn++ {
					for _, cut := range []int{0, 1, 31, 63, 64} {
						x := first.twin()
						if e := x.crash(keeping(n, kept), torn, cut); e != api.OK {
							t.Fatalf("Crash(%b of %d, %d, %d) = %d", kept, n, torn, cut, e)
						}
					}
				}
			}
		}
	}
}

// P12.8: each cut of a torn write, whatever keep says of it.
func TestCuts(t *testing.T) {
	for cut := range 65 {
		for _, keep := range []bool{false, true} {
			x := begin(t, 1)
			x.write(0, w('a'))
			x.crash([]bool{keep}, 0, cut)
			x.readsAs(torn(cut, 'a', 0))
		}
	}
}

// P12.8: which arguments are refused, and which error comes first; the disk stays as it was, its fuse too.
func TestRefusedCrashes(t *testing.T) {
	odd := []int{math.MinInt, -65, -2, -1, 0, 1, 2, 3, 4, 63, 64, 65, 66, math.MaxInt}
	for n := range 4 {
		first := written(t, n, 5)
		first.fuse(1)
		for size := range 6 {
			for _, torn := range odd {
				for _, cut := range odd {
					want := api.OK
					if size != n {
						want = api.ErrSize
					} else if torn < -1 || torn >= n || torn >= 0 && (cut < 0 || cut > 64) {
						want = api.ErrArg
					}
					x := first.twin()
					if e := x.crash(keeping(size, 63), torn, cut); e != want {
						t.Fatalf("%d writes: Crash(%d elements, %d, %d) = %d, want %d", n, size, torn, cut, e, want)
					}
					x.write(0, w(30))
					x.write(0, w(31))
					x.crash(keeping(len(x.p.writes), 63), -1, 0)
				}
			}
		}
	}
}

// P12.6, P12.11: behind a sync a crash of no write changes nothing.
func TestSyncLasts(t *testing.T) {
	r := rand.New(rand.NewSource(10))
	for range 200 {
		x := begin(t, 1+r.Intn(6))
		for range r.Intn(20) {
			x.write(r.Intn(x.d.Size()), content(r, 64))
		}
		was := x.d.Image()
		if e := x.sync(); e != api.OK || !bytes.Equal(x.d.Durable(), was) {
			t.Fatalf("Sync = %d", e)
		}
		if e := x.crash(nil, -1, r.Intn(200)-100); e != api.OK || !bytes.Equal(x.d.Image(), was) || !bytes.Equal(x.d.Durable(), was) {
			t.Fatalf("Crash behind Sync = %d", e)
		}
		x.sync()
		x.readsAs(was)
	}
}

// mayRead are the bytes that a sector may have behind a crash: what lasted or a live write, or one of these with the begin of the torn write upon it.
func mayRead(lasted []byte, writes []noted, at, torn, cut int) [][]byte {
	may := [][]byte{lasted}
	for _, x := range writes {
		if x.at == at && !x.dead {
			may = append(may, x.data)
		}
	}
	if torn >= 0 && writes[torn].at == at && !writes[torn].dead {
		for _, b := range slices.Clone(may) {
			may = append(may, slices.Concat(writes[torn].data[:cut], b[cut:]))
		}
	}
	return may
}

// P12.11: what a sector reads as behind a crash, and that a sector without an unsynced write reads as before.
func TestSurvives(t *testing.T) {
	r := rand.New(rand.NewSource(11))
	for range 2000 {
		size := 1 + r.Intn(5)
		x := begin(t, size)
		for range r.Intn(30) {
			x.step(r)
		}
		before, lasted, l := x.d.Image(), x.d.Durable(), x.d.Pending()
		torn, cut, writes := r.Intn(len(l)+1)-1, r.Intn(65), x.p.writes
		x.crash(flips(r, len(l)), torn, cut)
		for at := range size {
			b, _ := x.d.Read(at)
			if !slices.Contains(l, at) && !bytes.Equal(b, before[64*at:][:64]) {
				t.Fatalf("the sector %d was not written and has changed", at)
			}
			may := mayRead(lasted[64*at:][:64], writes, at, torn, cut)
			if !slices.ContainsFunc(may, func(m []byte) bool { return bytes.Equal(m, b) }) {
				t.Fatalf("the sector %d reads as %v, want one of %v", at, b, may)
			}
		}
	}
}
