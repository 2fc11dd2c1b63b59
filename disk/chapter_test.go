package disk_test

import (
	"bytes"
	"slices"
	"testing"

	"torrent/api"
	"torrent/disk"
)

// The chapter's examples 1 and 2: disks made.
func TestMadeOfTheChapter(t *testing.T) {
	for _, n := range []int{0, -1, 65537} {
		if d, e := disk.New(n); d != nil || e != api.ErrSector {
			t.Errorf("example 1: New(%d) = %v, %d", n, d, e)
		}
	}
	if d, e := disk.New(65536); d == nil || e != api.OK {
		t.Errorf("example 1: New(65536) = %d", e)
	}
	for _, n := range []int{63, 0, 100} {
		if d, e := disk.Load(make([]byte, n)); d != nil || e != api.ErrImage {
			t.Errorf("example 2: Load of %d bytes = %v, %d", n, d, e)
		}
	}
	if d, e := disk.Load(make([]byte, 128)); e != api.OK || d.Size() != 2 {
		t.Errorf("example 2: Load of 128 bytes = %d", e)
	}
}

// The chapter's example 3: sectors that are not there.
func TestSectorsOfTheChapter(t *testing.T) {
	d, _ := disk.New(2)
	if b, e := d.Read(0); e != api.OK || !bytes.Equal(b, w(0)) {
		t.Errorf("Read(0) = %v, %d", b, e)
	}
	for _, at := range []int{2, -1} {
		if b, e := d.Read(at); len(b) != 0 || e != api.ErrSector {
			t.Errorf("Read(%d) = %v, %d", at, b, e)
		}
	}
	if e := d.Write(2, nil); e != api.ErrSector {
		t.Errorf("Write(2, no bytes) = %d", e)
	}
	if e := d.Write(1, make([]byte, 63)); e != api.ErrSize {
		t.Errorf("Write(1, 63 bytes) = %d", e)
	}
}

// The chapter's example 4: writes.
func TestWritesOfTheChapter(t *testing.T) {
	d := begun(t).d
	if l := d.Pending(); !slices.Equal(l, []int{1, 0, 1}) {
		t.Errorf("Pending = %v", l)
	}
	if b, e := d.Read(1); e != api.OK || !bytes.Equal(b, w('c')) {
		t.Errorf("Read(1) = %v, %d", b, e)
	}
	if b := d.Durable(); !bytes.Equal(b, make([]byte, 128)) {
		t.Errorf("Durable = %v", b)
	}
	if b := d.Image(); !bytes.Equal(b, append(w('b'), w('c')...)) {
		t.Errorf("Image = %v", b)
	}
}

// The chapter's examples 5, 6 and 7: crashes.
func TestCrashesOfTheChapter(t *testing.T) {
	for _, c := range []struct {
		keep      int // a bit a write, the first one's is 1
		torn, cut int
		one, two  []byte
	}{
		{1, -1, 0, w(0), w('a')}, {2, 2, 10, w('b'), torn(10, 'c', 0)},
		{7, 2, 10, w('b'), torn(10, 'c', 'a')}, {7, 0, 10, w('b'), w('c')},
	} {
		x := begun(t)
		if e := x.crash(keeping(3, c.keep), c.torn, c.cut); e != api.OK || len(x.d.Pending()) != 0 {
			t.Errorf("Crash(%v) = %d, Pending %v", c, e, x.d.Pending())
		}
		x.readsAs(c.one, c.two)
	}
}

// The chapter's example 8: crashes that are refused.
func TestRefusedOfTheChapter(t *testing.T) {
	for _, c := range []struct {
		n, torn, cut int
		e            api.Errno
	}{
		{2, -1, 0, api.ErrSize}, {3, 3, 0, api.ErrArg}, {3, -2, 0, api.ErrArg},
		{3, 0, 65, api.ErrArg}, {3, 0, -1, api.ErrArg}, {3, -1, 99, api.OK},
	} {
		if e := begun(t).crash(keeping(c.n, 7), c.torn, c.cut); e != c.e {
			t.Errorf("Crash of %d writes, %d torn at %d = %d, want %d", c.n, c.torn, c.cut, e, c.e)
		}
	}
}

// The chapter's example 9: a crash behind a sync.
func TestSyncOfTheChapter(t *testing.T) {
	x := begun(t)
	x.sync()
	if e := x.crash(nil, -1, 0); e != api.OK {
		t.Errorf("Crash behind Sync = %d", e)
	}
	x.readsAs(w('b'), w('c'))
	if e := x.crash(nil, 0, 0); e != api.ErrArg {
		t.Errorf("Crash with a torn one of none = %d", e)
	}
}

// The chapter's example 10: a copy.
func TestCopyOfTheChapter(t *testing.T) {
	d := begun(t).d
	c := d.Copy()
	d.Sync()
	if !slices.Equal(c.Pending(), []int{1, 0, 1}) || !bytes.Equal(c.Durable(), make([]byte, 128)) {
		t.Errorf("the copy: Pending %v, Durable %v", c.Pending(), c.Durable())
	}
}

// The chapter's examples 11 and 12: fuses.
func TestFusesOfTheChapter(t *testing.T) {
	x := begun(t)
	d := x.d
	e1, e2, e3 := x.fuse(1), x.sync(), x.write(0, w('d'))
	if e1 != api.OK || e2 != api.OK || e3 != api.OK || !slices.Equal(d.Pending(), []int{0}) || !bytes.Equal(d.Durable(), append(w('b'), w('c')...)) {
		t.Errorf("Fuse(1), Sync, Write: %d, %d, %d, Pending %v, Durable %v", e1, e2, e3, d.Pending(), d.Durable())
	}
	x.readsAs(w('d'), w('c'))
	if e := x.sync(); e != api.OK || !slices.Equal(d.Pending(), []int{0}) {
		t.Errorf("Sync behind the blown fuse = %d, Pending %v", e, d.Pending())
	}
	if e := x.crash([]bool{true}, -1, 0); e != api.OK {
		t.Errorf("Crash = %d", e)
	}
	x.readsAs(w('b'), w('c'))
	x.write(0, w('e'))
	x.sync()
	if b := d.Durable(); !bytes.Equal(b, append(w('e'), w('c')...)) {
		t.Errorf("behind the crash there is a fuse: Durable = %v", b)
	}

	x = begin(t, 1)
	if e := x.fuse(-1); e != api.ErrArg {
		t.Errorf("Fuse(-1) = %d", e)
	}
	if e1, e2, e3 := x.fuse(0), x.write(0, w('a')), x.fuse(5); e1 != api.OK || e2 != api.OK || e3 != api.OK {
		t.Errorf("Fuse(0), Write, Fuse(5): %d, %d, %d", e1, e2, e3)
	}
	x.crash([]bool{true}, 0, 64)
	x.readsAs(w(0))
}
