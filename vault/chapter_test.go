package vault_test

import (
	"bytes"
	"slices"
	"strings"
	"testing"

	"torrent/api"
	"torrent/disk"
	"torrent/vault"
)

// reads fails the test unless a sector has these bytes, and zeros behind them.
func (x *watch) reads(at int, want ...[]byte) {
	x.t.Helper()
	b, _ := x.d.Read(at)
	w := slices.Concat(want...)
	if w = append(w, make([]byte, 64-len(w))...); !bytes.Equal(b, w) {
		x.t.Errorf("sector %d reads %v, want %v", at, b, w)
	}
}

// written are the sectors whose bytes differ between two disks.
func written(was, now *disk.Disk) []int {
	var l []int
	for at := range was.Size() {
		a, _ := was.Read(at)
		b, _ := now.Read(at)
		if !bytes.Equal(a, b) {
			l = append(l, at)
		}
	}
	return l
}

// changes commits, and fails the test unless just these sectors have other bytes then.
func (x *watch) changes(sectors ...int) {
	x.t.Helper()
	was := x.d.Copy()
	x.commits()
	slices.Sort(sectors)
	if l := written(was, x.d); !slices.Equal(l, sectors) {
		x.t.Errorf("Commit changes the sectors %v, want %v", l, sectors)
	}
}

// The chapter's example 1: areas, and the empty vault.
func TestFormattedOfTheChapter(t *testing.T) {
	d := made(t, 12)
	if v, e := vault.Open(d, 0, 12); v != nil || e != api.ErrVaultBad {
		t.Errorf("Open of zeros = %v, %d", v, e)
	}
	for _, c := range [][2]int{{0, 2}, {1, 12}, {-1, 5}} {
		if v, e := vault.Open(d, c[0], c[1]); v != nil || e != api.ErrVaultArea {
			t.Errorf("Open(%d, %d) = %v, %d", c[0], c[1], v, e)
		}
	}
	x := fresh(t)
	x.wants(1, 10, 0)
	x.reads(0)
	x.reads(1, []byte{86, 0, 0, 0, 1, 0, 0, 0, 0, 0, 0, 0, 0, 227, 176, 196, 66, 152, 252, 28, 20}, make([]byte, 31), sum8(headText(1, 0, 0, sum8(""))[:52]), []byte{0, 0, 0, 1})
}

// The chapter's examples 2 to 7: commits one behind the other.
func TestCommitsOfTheChapter(t *testing.T) {
	x := fresh(t)
	a := some(1, 61)
	x.puts("a", a)
	x.wants(1, 10, 3, "a")
	x.changes(2, 3, 4, 0)
	x.reads(2, []byte{0, 0, 0, 2}, a[:60])
	x.reads(3, []byte{0, 0, 0, 0}, a[60:])
	dir := slices.Concat([]byte{1, 97, 0, 0, 0, 1, 0, 0, 0, 61}, sum8(a))
	x.reads(4, []byte{0, 0, 0, 0}, dir)
	x.reads(0, headText(2, 3, 18, sum8(dir)))
	x.wants(2, 7, 0, "a")

	x.puts("b", nil) // example 3
	x.wants(2, 7, 1, "a", "b")
	x.changes(5, 1)
	x.reads(5, []byte{0, 0, 0, 0}, dir, []byte{1, 98, 0, 0, 0, 0, 0, 0, 0, 0}, sum8(""))
	x.wants(3, 7, 0, "a", "b")

	x.puts("a", slices.Clone(a)) // example 4
	x.wants(3, 7, 0, "a", "b")
	x.changes()
	x.wants(3, 7, 0, "a", "b")

	x.puts("a", some(2, 300)) // example 5
	x.wants(3, 7, 6, "a", "b")
	x.changes(4, 6, 7, 8, 9, 10, 0)
	for i, next := range []byte{5, 6, 7, 8, 0} {
		x.reads([]int{4, 6, 7, 8, 9}[i], []byte{0, 0, 0, next}, some(2, 300)[60*i:60*i+60])
	}
	x.wants(4, 4, 0, "a", "b")

	x.puts("c", some(3, 180)) // example 6
	x.wants(4, 4, 4, "a", "b", "c")
	x.changes(2, 3, 5, 11, 1)
	x.reads(1, headText(5, 10, 54, x.sumOf(11, 54)))
	x.wants(5, 1, 0, "a", "b", "c")

	x.puts("d", some(4, 120)) // example 7
	x.wants(5, 1, 4, "a", "b", "c", "d")
	was := x.d.Copy()
	if e := x.commit(); e != api.ErrVaultFull || len(written(was, x.d)) != 0 {
		t.Errorf("Commit without room = %d", e)
	}
	if b, e := x.v.Get("d"); e != api.OK || !bytes.Equal(b, some(4, 120)) {
		t.Errorf("Get behind it = %v, %d", b, e)
	}
	if e := x.revert(); e != api.OK || x.get("d") != api.ErrVaultNone {
		t.Errorf("Revert = %d", e)
	}
	x.wants(5, 1, 0, "a", "b", "c")
}

// sumOf is the sum of a sector's n bytes behind the number.
func (x *watch) sumOf(at, n int) []byte {
	b, _ := x.d.Read(at)
	return sum8(b[4 : 4+n])
}

// The chapter's example 8: what is refused.
func TestRefusedOfTheChapter(t *testing.T) {
	x := fresh(t)
	for _, e := range []api.Errno{x.put("", []byte("1")), x.put(strings.Repeat("k", 256), nil), x.get("")} {
		if e != api.ErrVaultKey {
			t.Errorf("a key that may not be: %d", e)
		}
	}
	if e, f := x.get("x"), x.delete("x"); e != api.ErrVaultNone || f != api.ErrVaultNone {
		t.Errorf("Get, Delete of none = %d, %d", e, f)
	}
	if e := x.put("x", make([]byte, 2097153)); e != api.ErrVaultSize {
		t.Errorf("Put of too long a value = %d", e)
	}
}

// The chapter's example 9: fuses of 3 and of 4.
func TestFusesOfTheChapter(t *testing.T) {
	for _, c := range []struct {
		fuse, torn, cut int
		keep, there     bool
	}{
		{3, -1, 0, true, false}, {3, -1, 0, false, false}, {3, 0, 64, true, false}, {4, -1, 0, true, true}, {4, -1, 0, false, false},
		{4, 0, 63, true, false}, {4, 0, 4, false, false}, {4, 0, 64, false, true},
	} {
		x := fresh(t)
		x.puts("a", some(1, 61))
		x.commits()
		x.fuse(c.fuse)
		x.puts("b", []byte("x"))
		x.commits()
		if l := x.d.Pending(); !slices.Equal(l, []int{1}) {
			t.Fatalf("a fuse of %d: Pending = %v", c.fuse, l)
		}
		x.crash([]bool{c.keep}, c.torn, c.cut)
		if e := x.get("b"); (e == api.OK) != c.there {
			t.Errorf("%v: Get(b) = %d", c, e)
		}
		if b, e := x.v.Get("a"); e != api.OK || !bytes.Equal(b, some(1, 61)) {
			t.Errorf("%v: Get(a) = %v, %d", c, b, e)
		}
	}
}

// The chapter's example 10: a byte of a value changed on the disk.
func TestRotOfTheChapter(t *testing.T) {
	x := fresh(t)
	x.puts("a", []byte("one"))
	x.commits()
	x.puts("a", []byte("two"))
	x.commits()
	image := x.d.Image()
	for at := range 12 {
		if bytes.Equal(image[64*at+4:][:3], []byte("two")) {
			image[64*at+5] ^= 4
		}
	}
	y := begin(t, loaded(t, image), 0, 12)
	y.wants(2, 8, 0, "a")
	if b, e := y.v.Get("a"); e != api.OK || string(b) != "one" {
		t.Errorf("Get = %q, %d", b, e)
	}
}
