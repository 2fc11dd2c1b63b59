package journal_test

import (
	"bytes"
	"slices"
	"testing"

	"torrent/api"
	"torrent/journal"
)

// The chapter's example 1: an empty ring, and rings that may not be.
func TestEmptyOfTheChapter(t *testing.T) {
	x := fresh(t)
	if x.wants(1, 0); x.j.Room() != 3 || !x.j.Clean() {
		t.Errorf("Room %d, Clean %v", x.j.Room(), x.j.Clean())
	}
	for _, c := range [][2]int{{5, 4}, {0, 2}, {-1, 4}, {0, 9}} {
		if j, e := journal.Open(x.d, c[0], c[1]); j != nil || e != api.ErrRing {
			t.Errorf("Open(%d, %d) = %v, %d", c[0], c[1], j, e)
		}
	}
	if j, e := journal.Open(nil, 0, 0); j != nil || e != api.ErrNil {
		t.Errorf("Open(nil, 0, 0) = %v, %d", j, e)
	}
}

// full is the journal behind the chapter's examples 2, 3 and 4.
func full(t *testing.T) *watch {
	t.Helper()
	x := fresh(t)
	x.adds(1, 7, "ab")
	x.adds(2, 8, "")
	x.adds(3, 9, "")
	return x
}

// trimmed is the journal behind the Trim of the chapter's example 5.
func trimmed(t *testing.T) *watch {
	t.Helper()
	x := full(t)
	if e := x.trim(3); e != api.OK {
		t.Fatalf("Trim(3) = %d", e)
	}
	return x
}

// The chapter's examples 2, 3 and 4: records appended and refused.
func TestAppendOfTheChapter(t *testing.T) {
	x := fresh(t)
	x.adds(1, 7, "ab")
	want := append([]byte{74, 0, 0, 0, 1, 0, 0, 0, 1, 7, 2, 97, 98}, make([]byte, 39)...)
	b, _ := x.d.Read(2)
	if !bytes.Equal(b[:52], want) || !bytes.Equal(b[60:], []byte{0, 0, 0, 1}) || !bytes.Equal(b, sealed(want, 1)) {
		t.Errorf("example 2: the sector 2 reads as %v", b)
	}
	if x.j.Room() != 2 || !slices.Equal(x.d.Pending(), []int{2}) {
		t.Errorf("example 2: Room %d, Pending %v", x.j.Room(), x.d.Pending())
	}
	for _, c := range []struct{ kind, size int }{{0, 0}, {0, 3}, {256, 0}, {256, 3}, {1, 37}} {
		if n, e := x.append(c.kind, make([]byte, c.size)); n != 0 || e != api.ErrRecord {
			t.Errorf("example 3: Append(%d, %d bytes) = %d, %d", c.kind, c.size, n, e)
		}
	}
	x = full(t)
	if x.j.Room() != 0 {
		t.Errorf("example 4: Room %d", x.j.Room())
	}
	if n, e := x.append(9, nil); n != 0 || e != api.ErrFull || len(x.d.Pending()) != 3 {
		t.Errorf("example 4: Append(9) = %d, %d, Pending %v", n, e, x.d.Pending())
	}
}

// The chapter's example 5: a trim, and the space behind it.
func TestTrimOfTheChapter(t *testing.T) {
	x := full(t)
	for _, to := range []int{1, 5} {
		if e := x.trim(to); e != api.ErrTrim {
			t.Errorf("Trim(%d) = %d", to, e)
		}
	}
	if e := x.trim(3); e != api.OK {
		t.Errorf("Trim(3) = %d", e)
	}
	if b, _ := x.d.Read(5); !bytes.Equal(b, text(4, 3, 0, nil)) {
		t.Errorf("the sector 5 reads as %v", b)
	}
	if x.wants(3, 4, 3); x.j.Room() != 0 {
		t.Errorf("Room %d", x.j.Room())
	}
	if e := x.trim(4); e != api.ErrFull {
		t.Errorf("Trim(4) = %d", e)
	}
	if e := x.sync(); e != api.OK || x.j.Room() != 1 {
		t.Errorf("Sync = %d, Room %d", e, x.j.Room())
	}
	x.adds(5, 1, "")
	if b, _ := x.d.Read(2); !bytes.Equal(b, text(5, 3, 1, nil)) {
		t.Errorf("the sector 2 reads as %v", b)
	}
}

// The chapter's example 6: a record lost, and one torn.
func TestTornOfTheChapter(t *testing.T) {
	x := fresh(t)
	x.adds(1, 7, "ab")
	x.crash([]bool{false}, -1, 0)
	x.wants(1, 0)

	x = fresh(t)
	x.adds(1, 7, "ab")
	x.crash([]bool{false}, 0, 63)
	if b, _ := x.d.Read(2); !bytes.Equal(b[60:], []byte{0, 0, 0, 0}) {
		t.Errorf("the sector 2 ends with %v", b[60:])
	}
	if x.wants(1, 0); x.j.Clean() || x.j.Room() != 0 {
		t.Errorf("Clean %v, Room %d", x.j.Clean(), x.j.Room())
	}
	if n, e := x.append(7, nil); n != 0 || e != api.ErrStale {
		t.Errorf("Append = %d, %d", n, e)
	}
	if e := x.scrub(); e != api.OK || !x.j.Clean() {
		t.Errorf("Scrub = %d", e)
	}
	if b, _ := x.d.Read(2); !bytes.Equal(b, make([]byte, 64)) {
		t.Errorf("the sector 2 reads as %v", b)
	}
}

// The chapter's examples 7 and 8: records beyond a lost one.
func TestLostOfTheChapter(t *testing.T) {
	x := full(t)
	x.crash([]bool{true, false, true}, -1, 0)
	if x.wants(1, 1, 1); x.j.Clean() {
		t.Error("example 7: Clean")
	}
	x.scrub()
	if b, _ := x.d.Read(4); !bytes.Equal(b, make([]byte, 64)) {
		t.Errorf("example 7: the sector 4 reads as %v", b)
	}
	x.adds(2, 1, "new")
	x.adds(3, 1, "new")
	if l := x.j.Live(); string(l[2].Data) != "new" {
		t.Errorf("example 7: Live %v", l)
	}

	x = trimmed(t)
	x.crash([]bool{true, true, false, true}, -1, 0)
	x.wants(1, 2, 1, 2)
	x = trimmed(t)
	x.crash([]bool{false, false, true, true}, -1, 0)
	x.wants(3, 4, 3)
}

// The chapter's example 9: the numbers are used up.
func TestWornOfTheChapter(t *testing.T) {
	const last = 4294967295
	d := made(t, 8)
	d.Write(2+(last-1)%4, text(last, last, 9, []byte("z")))
	d.Sync()
	x := begin(t, d, 2, 4)
	if x.wants(last, last, last); x.j.Room() != 0 {
		t.Errorf("Room %d", x.j.Room())
	}
	if n, e := x.append(1, nil); n != 0 || e != api.ErrWorn {
		t.Errorf("Append = %d, %d", n, e)
	}
	if e := x.trim(last + 1); e != api.ErrWorn {
		t.Errorf("Trim = %d", e)
	}
}

// The chapter's example 10: sectors that hold no record.
func TestForeignOfTheChapter(t *testing.T) {
	for at := range 4 {
		d := made(t, 8)
		d.Write(2+at, text(1, 1, 7, []byte("ab")))
		x := begin(t, d, 2, 4)
		if x.j.Last() == 1 != (at == 0) || x.j.Clean() != (at == 0) {
			t.Errorf("the record 1 in the slot %d: Last %d, Clean %v", at, x.j.Last(), x.j.Clean())
		}
	}
	for bit := range 512 {
		b := text(1, 1, 7, []byte("ab"))
		b[bit/8] ^= 1 << (bit % 8)
		d := made(t, 8)
		d.Write(2, b)
		if x := begin(t, d, 2, 4); x.j.Last() != 0 || x.j.Clean() {
			t.Errorf("with the bit %d changed: Last %d, Clean %v", bit, x.j.Last(), x.j.Clean())
		}
	}
}
