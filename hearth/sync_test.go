package hearth_test

import (
	"bytes"
	"crypto/sha256"
	"encoding/binary"
	"slices"
	"strings"
	"testing"

	"torrent/api"
	"torrent/disk"
	"torrent/vault"
)

// aged is a notes' disk whose vault, an empty one, has a number.
func aged(t *testing.T, size, number int) *disk.Disk {
	t.Helper()
	four := binary.BigEndian.AppendUint32(nil, uint32(number))
	none := sha256.Sum256(nil)
	b := slices.Concat([]byte{86}, four, make([]byte, 8), none[:8], make([]byte, 31))
	sum := sha256.Sum256(b)
	d := sectors(t, size)
	wants(t, "Write", d.Write(number%2, slices.Concat(b, sum[:8], four)), api.OK)
	d.Sync()
	if v, e := vault.Open(d, 0, size); e != api.OK || v.Number() != number {
		t.Fatal("the head is not good:", e)
	}
	return d
}

// P27.6: a Sync makes last what the torrents have, and the notes.
func TestSyncMakesLast(t *testing.T) {
	x := begin(t, rowOf(t, 60, 40, 40, 40)...)
	l := torrents(t)
	for at := range 3 {
		x.texts(l[at])
		x.fetch(at, 3, l[at], 20)
	}
	for at := range 3 {
		if s, _ := x.h.State(at); slices.Contains(s.Done, false) {
			t.Fatalf("the torrent %d: %+v", at, s)
		}
	}
	x.syncs()
	for i, d := range x.l {
		if len(d.Pending()) > 0 {
			t.Errorf("the disk %d has unsynced writes", i)
		}
	}
	x.crash(nil)
	for at := range 3 {
		for file, f := range l[at].files {
			if b, e := x.h.File(at, file); e != api.OK || !bytes.Equal(b, f.Data) {
				t.Errorf("File(%d, %d) = %q, %d", at, file, b, e)
			}
		}
	}
	was := shot(x.l)
	x.syncs()
	if !slices.Equal(shot(x.l), was) {
		t.Error("a Sync behind which nothing is new changes a disk")
	}
}

// P27.6: of what isn't running the disk is not synced, nor that of a free slot.
func TestSyncOfOthers(t *testing.T) {
	l := rowOf(t, 60, 40, 40, 40, 40, 40)
	one, other := example(t), made(t, "other", 64, 70)
	l[0] = notesWith(t, 60, "slot 0", "L"+other.link("x"), "slot 1", "Tx", "slot 2", "T"+string(one.text))
	for _, d := range l[1:] {
		d.Write(30, junk)
	}
	x := begin(t, l...)
	x.syncs()
	for i, want := range []int{0, 1, 1, 0, 1, 1} { // that of the slot 2 was synced by the laying out
		if n := len(x.l[i].Pending()); n != want {
			t.Errorf("the disk %d has %d unsynced writes", i, n)
		}
	}
}

// P27.6: the numbers of the notes are used up: what the torrents have lasts, and nothing leaves.
func TestWorn(t *testing.T) {
	one, other := example(t), made(t, "other", 64, 70)
	for back := range 2 {
		x := begin(t, aged(t, 40, api.MaxSeq-back), sectors(t, 40), sectors(t, 40), sectors(t, 40))
		x.syncs()
		x.texts(one)
		if back == 1 {
			x.syncs()
		}
		x.texts(other)
		x.fetch(0, 3, one, 20)
		x.removes(1)
		x.links(other)
		for range 2 {
			wants(t, "Sync", x.sync(), api.ErrVaultWorn)
			x.holds(0, 2)
			if len(x.l[1].Pending()) > 0 || zeros(x.l[2]) {
				t.Error("Pending:", x.l[1].Pending())
			}
		}
		_, e := x.addText(other.text)
		wants(t, "AddText, where the slot is still leaving", e, api.ErrHomeDisk)
		x.removes(2)
		if back == 1 { // what is noted is what was committed
			x.syncs()
			x.holds(0)
			x.crash(nil)
			x.holds(0)
			continue
		}
		wants(t, "Sync", x.sync(), api.ErrVaultWorn)
		x.crash(nil)
		x.holds()
	}
}

// P27.6, P27.7: notes that somebody else filled: a commit is refused, and nothing leaves.
func TestFull(t *testing.T) {
	one, other := example(t), made(t, "other", 64, 70)
	x := begin(t, notesWith(t, 6, "slot 0", "L"+one.linkOf(100), "slot 1", "Lx"), sectors(t, 40), sectors(t, 40))
	x.phase(0, api.PhaseWaiting, api.OK)
	x.give(0, 3, one)
	x.removes(0)
	for range 2 {
		wants(t, "Sync", x.sync(), api.ErrVaultFull)
		x.holds(1)
		if zeros(x.l[1]) {
			t.Error("the disk of a slot is wiped that hasn't left")
		}
	}
	_, e := x.addLink(other.link("x"))
	wants(t, "AddLink", e, api.ErrHomeDisk)
	x.removes(1) // no key: no directory
	x.syncs()
	x.holds()
	x.noted()
	if !zeros(x.l[1]) {
		t.Error("the disk isn't wiped")
	}
}

// P27.6: a link's note becomes the text as soon as there is room, the lower slots' first.
func TestLinksBecomeTexts(t *testing.T) {
	one, other := made(t, strings.Repeat("one", 30), 128, 100), made(t, strings.Repeat("two", 30), 64, 70)
	places := func(n int) int { return (n + 1 + 59) / 60 }
	link, text := places(len(one.link("x"))), places(len(one.bare))
	if link != places(len(other.link("x"))) || text != places(len(other.bare)) || text < link+2 {
		t.Fatalf("the sizes of this test's torrents: %d, %d", link, text)
	}
	// Room for both links, and beside what is committed for one text.
	x := begin(t, rowOf(t, 2+2*link+1+text+1, 40, 40)...)
	x.links(one)
	x.links(other)
	x.syncs()
	x.noted("L"+one.link("x"), "L"+other.link("x"))
	x.give(1, 3, other)
	x.give(0, 3, one)
	x.syncs()
	x.noted("T"+string(one.bare), "L"+other.link("x"))
	x.phase(1, api.PhaseRunning, api.OK)
	was := shot(x.l)
	x.syncs()
	if !slices.Equal(shot(x.l), was) {
		t.Error("a note without room changes a disk")
	}
	x.removes(0)
	x.syncs()
	x.syncs()
	x.noted("", "T"+string(other.bare))
	x.crash(nil)
	x.phase(1, api.PhaseRunning, api.OK)
}

// P27.6, P27.10: without room it stays the link, and behind a crash all begins anew.
func TestLinkStays(t *testing.T) {
	one := example(t)
	for size := 3; size < 20; size++ {
		x := begin(t, rowOf(t, size, 40)...)
		if _, e := x.addLink(one.link("x")); e != api.OK {
			continue
		}
		if size%2 == 0 {
			x.syncs()
		}
		x.give(0, 3, one)
		x.fetch(0, 4, one, 20)
		x.syncs()
		x.crash(nil)
		x.holds(0)
		if len(notesOn(t, x.l[0])["slot 0"]) > len(one.link("x"))+1 {
			x.phase(0, api.PhaseRunning, api.OK)
			continue
		}
		x.phase(0, api.PhaseWaiting, api.OK)
		acts := x.Join(0, 3)
		for _, b := range one.giving() {
			acts = append(acts, x.Bytes(0, 3, b)...)
		}
		if _, e := x.h.File(0, 0); e != api.OK { // what was had is there as soon as it is known what it is
			t.Errorf("File: %d; the acts %v", e, acts)
		}
	}
}

// P27.6: a torrent whose info dictionary is none stays a link.
func TestBadStays(t *testing.T) {
	l := torrents(t)
	bad := l[len(l)-1]
	x := fresh(t)
	x.links(bad)
	x.syncs()
	x.give(0, 3, bad)
	if s, e := x.h.State(0); e != api.OK || s.Phase != api.PhaseBad || s.Info != bad.info {
		t.Fatalf("State = %+v, %d", s, e)
	}
	if text, e := x.h.Text(0); e != api.OK || !bytes.Equal(text, bad.bare) {
		t.Fatalf("Text = %q, %d", text, e)
	}
	was := shot(x.l)
	x.syncs()
	if !slices.Equal(shot(x.l), was) {
		t.Error("a bad torrent's Sync changes a disk")
	}
	x.crash(nil)
	x.phase(0, api.PhaseWaiting, api.OK)
}

// P27.6: what was added and removed again between two Syncs leaves no note; its disk is wiped.
func TestThereAndGone(t *testing.T) {
	x, one := fresh(t), example(t)
	x.texts(one)
	was := x.l[0].Image()
	x.removes(0)
	if zeros(x.l[1]) {
		t.Fatal("there is no store")
	}
	x.syncs()
	if !zeros(x.l[1]) || !bytes.Equal(x.l[0].Image(), was) {
		t.Error("the disks behind it")
	}
	if n := x.texts(one); n != 0 {
		t.Errorf("AddText = %d", n)
	}
}

// P27.6: the disk of a slot that leaves is wiped by one write and one sync, and not touched where it holds nothing.
func TestLeavingIsWiped(t *testing.T) {
	one := example(t)
	for fuse, want := range []bool{false, false, true} {
		x, _ := synced(t)
		x.removes(0)
		x.l[1].Fuse(fuse)
		x.pl[1].Fuse(fuse)
		x.syncs()
		x.l[1].Crash(make([]bool, len(x.l[1].Pending())), -1, 0)
		if zeros(x.l[1]) != want {
			t.Errorf("with a fuse of %d the disk is wiped: %v", fuse, zeros(x.l[1]))
		}
	}
	l := rowOf(t, 20, 40)
	l[1].Write(7, junk)
	x := begin(t, l...)
	x.links(one)
	x.removes(0)
	x.syncs()
	if !slices.Equal(l[1].Pending(), []int{7}) {
		t.Error("a disk that holds nothing in its sector 0 was touched")
	}
}
