package disk_test

import (
	"bytes"
	"math"
	"math/rand"
	"slices"
	"testing"

	"torrent/api"
	"torrent/disk"
)

// P12.1, P12.3: a new disk is all zero, and has as many sectors as were asked for.
func TestNew(t *testing.T) {
	for _, n := range []int{0, -1, -64, math.MinInt, 65537, 65536 * 64, math.MaxInt32, math.MaxInt} {
		if d, e := disk.New(n); d != nil || e != api.ErrSector {
			t.Errorf("New(%d) = %v, %d", n, d, e)
		}
	}
	for _, n := range []int{1, 2, 3, 64, 1000, 65535, 65536} {
		d, e := disk.New(n)
		if e != api.OK || d.Size() != n || len(d.Pending()) != 0 || !bytes.Equal(d.Image(), make([]byte, 64*n)) || !bytes.Equal(d.Durable(), make([]byte, 64*n)) {
			t.Errorf("New(%d) = %d: Size %d", n, e, d.Size())
		}
	}
}

// P12.2: an image is that of a disk if it has from 1 to 65536 whole sectors, which last.
func TestLoad(t *testing.T) {
	r := rand.New(rand.NewSource(1))
	const most = 64 * 65536
	lengths := []int{most - 64, most - 1, most, most + 1, most + 64, 2 * most}
	for n := range 400 {
		lengths = append(lengths, n)
	}
	for _, n := range lengths {
		b := content(r, n)
		d, e := disk.Load(b)
		if n == 0 || n%64 != 0 || n > most {
			if d != nil || e != api.ErrImage {
				t.Errorf("Load of %d bytes = %v, %d", n, d, e)
			}
			continue
		}
		if e != api.OK || d.Size() != n/64 || len(d.Pending()) != 0 || !bytes.Equal(d.Durable(), b) || !bytes.Equal(d.Image(), b) {
			t.Errorf("Load of %d bytes = %d: Size %d, Pending %v", n, e, d.Size(), d.Pending())
		}
		if last, e := d.Read(n/64 - 1); e != api.OK || !bytes.Equal(last, b[n-64:]) {
			t.Errorf("Load of %d bytes: the last sector reads as %v, %d", n, last, e)
		}
	}
}

// P12.4, P12.5: which sectors there are, which bytes one takes, and which error comes first.
func TestWhere(t *testing.T) {
	x := begun(t)
	for _, at := range []int{math.MinInt, -64, -2, -1, 2, 3, 64, 128, 65536, math.MaxInt32, math.MaxInt} {
		for _, n := range []int{0, 63, 64, 65, 128} {
			if e := x.write(at, make([]byte, n)); e != api.ErrSector {
				t.Errorf("Write(%d, %d bytes) = %d", at, n, e)
			}
		}
		if b, e := x.d.Read(at); len(b) != 0 || e != api.ErrSector {
			t.Errorf("Read(%d) = %v, %d", at, b, e)
		}
	}
	for _, at := range []int{0, 1} {
		for n := range 200 {
			want := api.ErrSize
			if n == 64 {
				want = api.OK
			}
			if e := x.write(at, bytes.Repeat([]byte{7}, n)); e != want {
				t.Errorf("Write(%d, %d bytes) = %d", at, n, e)
			}
		}
	}
	if l := x.d.Pending(); !slices.Equal(l, []int{1, 0, 1, 0, 1}) {
		t.Errorf("Pending = %v: refused writes are among them, or others are not", l)
	}
}

// P12.4, P12.7: a write that changes nothing is one too, on what lasts and on what does not.
func TestWriteOfTheSame(t *testing.T) {
	x := begin(t, 3)
	x.write(2, w(0))
	x.write(2, w(0))
	x.write(1, w(5))
	x.write(1, w(5))
	x.sync()
	x.write(1, w(5))
	if l := x.d.Pending(); !slices.Equal(l, []int{1}) {
		t.Errorf("Pending = %v", l)
	}
}

// P12.9: on the largest disk too each sector is at its place.
func TestLargest(t *testing.T) {
	d, _ := disk.New(65536)
	want := make([]byte, 64*65536)
	r := rand.New(rand.NewSource(2))
	for i, at := range r.Perm(65536) {
		b := content(r, 64)
		copy(want[64*at:], b)
		if e := d.Write(at, b); e != api.OK {
			t.Fatalf("Write(%d) = %d", at, e)
		}
		if i == 30000 {
			d.Sync()
			if len(d.Pending()) != 0 || !bytes.Equal(d.Durable(), want) {
				t.Fatal("not all lasts behind Sync")
			}
		}
	}
	if len(d.Pending()) != 35535 || !bytes.Equal(d.Image(), want) || bytes.Equal(d.Durable(), want) {
		t.Errorf("%d writes are unsynced, or the image is not what was written", len(d.Pending()))
	}
	if e := d.Crash(slices.Repeat([]bool{true}, 35535), -1, 0); e != api.OK || !bytes.Equal(d.Durable(), want) {
		t.Errorf("Crash that keeps all = %d", e)
	}
}

// The number of unsynced writes has no limit of its own.
func TestManyWrites(t *testing.T) {
	const n = 300000
	d, _ := disk.New(3)
	for i := range n {
		if e := d.Write(i%3, w(byte(i/3))); e != api.OK {
			t.Fatalf("the write %d = %d", i, e)
		}
	}
	l := d.Pending()
	if len(l) != n || l[0] != 0 || l[n-1] != 2 || l[n-3] != 0 {
		t.Fatalf("%d are unsynced", len(l))
	}
	keep := make([]bool, n)
	keep[3*777], keep[3*100], keep[3*50000+1] = true, true, true
	e := d.Crash(keep, 3*60000+1, 9)
	if want := slices.Concat(w(777%256), torn(9, 60000%256, 50000%256), w(0)); e != api.OK || !bytes.Equal(d.Image(), want) {
		t.Errorf("Crash = %d, %v", e, d.Image())
	}
}

// step makes one of all calls, with arguments that are mostly good ones.
func (x *watch) step(r *rand.Rand) {
	x.t.Helper()
	n := len(x.p.writes)
	switch k := r.Intn(100); {
	case k < 60:
		x.write(r.Intn(x.d.Size()), content(r, 64))
	case k < 64:
		x.write(r.Intn(x.d.Size()+4)-2, content(r, 60+r.Intn(8)))
	case k < 76:
		x.sync()
	case k < 84:
		x.crash(flips(r, n), r.Intn(n+1)-1, r.Intn(65))
	case k < 90:
		x.crash(flips(r, max(0, n+r.Intn(3)-1)), r.Intn(n+4)-2, r.Intn(70)-2)
	default:
		x.fuse(r.Intn(12) - 1)
	}
}

// P12.1 to P12.10, P12.13: rows of all calls are answered as the document tells, and copies go their own ways.
func TestScripts(t *testing.T) {
	r := rand.New(rand.NewSource(3))
	for range 600 {
		x := begin(t, 1+r.Intn(5))
		all := []*watch{x}
		for range 80 {
			one := all[r.Intn(len(all))]
			one.step(r)
			if len(all) < 5 && r.Intn(15) == 0 {
				all = append(all, one.twin())
			}
		}
		for _, one := range all {
			one.look()
		}
	}
}
