package hearth_test

import (
	"bytes"
	"strings"
	"testing"

	"torrent/api"
	"torrent/disk"
	"torrent/hearth"
	"torrent/vault"
)

var noSector = make([]byte, 64)

// junk is a sector of sevens.
var junk = bytes.Repeat([]byte{7}, 64)

// zeros tells whether zeros last in a disk's sector 0.
func zeros(d *disk.Disk) bool { return bytes.Equal(d.Durable()[:64], noSector) }

// refused fails the test unless Open answers an error, and nothing else.
func refused(t *testing.T, what string, sc api.Scale, notes *disk.Disk, disks []*disk.Disk, want api.Errno) {
	t.Helper()
	if h, acts, e := hearth.Open(sc, us, notes, disks); h != nil || len(acts) > 0 || e != want {
		t.Fatalf("%s: Open = %v, %v, %d; want %d", what, h, acts, e, want)
	}
}

// The chapter's example 1: a home on disks of zeros.
func TestStartOfTheChapter(t *testing.T) {
	l := rowOf(t, 20, 40, 40)
	l[2].Write(0, junk)
	h, acts, e := hearth.Open(own, us, l[0], l[1:])
	if h == nil || e != api.OK || len(acts) != 2 || len(acts[0])+len(acts[1]) > 0 || len(h.Slots()) > 0 {
		t.Fatalf("Open = %v, %v, %d", h, acts, e)
	}
	v, e := vault.Open(l[0], 0, 20)
	if e != api.OK || v.Number() != 1 || len(v.Keys()) > 0 {
		t.Errorf("the notes: %d", e)
	}
	if !zeros(l[2]) || len(l[2].Pending()) > 0 {
		t.Error("the disk of a free slot isn't wiped")
	}
}

// The chapter's example 2: what can't be opened.
func TestRefusedOfTheChapter(t *testing.T) {
	l := rowOf(t, 20, 40, 2)
	refused(t, "no notes", own, nil, l[1:], api.ErrNil)
	refused(t, "no disk", own, l[0], []*disk.Disk{nil}, api.ErrNil)
	refused(t, "two sectors", own, l[2], l[1:2], api.ErrVaultArea)
}

// The chapter's examples 3 and 4: what may be added, and a crash that takes it away.
func TestAddedOfTheChapter(t *testing.T) {
	x, one := fresh(t), example(t)
	if n := x.texts(one); n != 0 {
		t.Fatalf("AddText = %d", n)
	}
	x.holds(0)
	x.phase(0, api.PhaseRunning, api.OK)
	_, e := x.addText(one.text)
	wants(t, "AddText again", e, api.ErrPresent)
	_, e = x.addLink(one.link(""))
	wants(t, "AddLink of the same", e, api.ErrPresent)
	_, e = x.addText([]byte("x"))
	wants(t, "AddText of x", e, api.ErrTextByte)
	_, e = x.h.State(1)
	wants(t, "State(1)", e, api.ErrHomeSlot)
	for _, at := range []int{1, -1} {
		wants(t, "Remove", x.remove(at), api.ErrHomeSlot)
	}
	x.crash(nil)
	x.holds()
	if !zeros(x.l[1]) {
		t.Error("the slot's disk isn't wiped")
	}
}

// synced is the home of the chapter's example 5.
func synced(t *testing.T) (*watch, *torrent) {
	t.Helper()
	x, one := fresh(t), example(t)
	x.texts(one)
	x.syncs()
	x.crash(nil)
	x.holds(0)
	x.phase(0, api.PhaseRunning, api.OK)
	return x, one
}

// The chapter's example 5, of a torrent that has a piece: the acts are those of the start.
func TestSyncedOfTheChapter(t *testing.T) {
	x, one := synced(t)
	x.fetch(0, 3, one, 20)
	x.syncs()
	acts := x.crash(nil)
	x.holds(0)
	if len(acts) != 2 || len(acts[0]) != 2 || acts[0][0].Kind != api.ActPiece || acts[0][1].Kind != api.ActFile || len(acts[1]) > 0 {
		t.Errorf("the acts are %v", acts)
	}
	b, e := x.h.File(0, 0)
	if e != api.OK || !bytes.Equal(b, one.files[0].Data) {
		t.Errorf("File = %q, %d", b, e)
	}
}

// The chapter's examples 6 and 7: a torrent is removed, and made to be gone, or not.
func TestRemovedOfTheChapter(t *testing.T) {
	x, one := synced(t)
	x.removes(0)
	x.holds()
	if n := x.texts(one); n != 1 || zeros(x.l[1]) {
		t.Errorf("AddText = %d", n)
	}
	x.syncs()
	if !zeros(x.l[1]) {
		t.Error("the slot's disk isn't wiped")
	}
	if n := x.links(made(t, "other", 64, 70)); n != 0 {
		t.Errorf("AddLink = %d", n)
	}
	x, _ = synced(t)
	x.removes(0)
	x.crash(nil)
	x.holds(0)
	x.phase(0, api.PhaseRunning, api.OK)
}

// The chapter's example 8: a link's note becomes the text.
func TestLinkOfTheChapter(t *testing.T) {
	x, one := fresh(t), example(t)
	if n := x.links(one); n != 0 {
		t.Fatalf("AddLink = %d", n)
	}
	x.syncs()
	x.noted("L" + one.link("x"))
	x.phase(0, api.PhaseWaiting, api.OK)
	x.give(0, 3, one)
	x.phase(0, api.PhaseRunning, api.OK)
	x.syncs()
	x.noted("T" + string(one.bare))
	x.crash(nil)
	x.phase(0, api.PhaseRunning, api.OK)
}

// The chapter's example 9: notes without room.
func TestRoomOfTheChapter(t *testing.T) {
	x := begin(t, rowOf(t, 6, 40, 40)...)
	_, e := x.addText([]byte(strings.Repeat("x", 120)))
	wants(t, "AddText of 120 bytes", e, api.ErrVaultFull)
	_, e = x.addLink(example(t).linkOf(100))
	wants(t, "AddLink of 100 bytes", e, api.OK)
}

// notesWith is a notes' disk on which somebody wrote these keys and values.
func notesWith(t *testing.T, sectors int, pairs ...string) *disk.Disk {
	t.Helper()
	d := rowOf(t, sectors)[0]
	vault.Format(d, 0, sectors)
	v, _ := vault.Open(d, 0, sectors)
	for i := 0; i < len(pairs); i += 2 {
		wants(t, "Put", v.Put(pairs[i], []byte(pairs[i+1])), api.OK)
	}
	wants(t, "Commit", v.Commit(), api.OK)
	return d
}

// The chapter's example 10: notes that somebody else wrote.
func TestNotesOfTheChapter(t *testing.T) {
	for _, c := range []struct {
		key, value string
		want       api.Errno
	}{
		{"slot 01", "Lx", api.ErrHomeNote},
		{"slot", "Lx", api.ErrHomeNote},
		{"slot -1", "Lx", api.ErrHomeNote},
		{"x", "Lx", api.ErrHomeNote},
		{"slot 0", "", api.ErrHomeNote},
		{"slot 2", "Lx", api.ErrHomeDisk},
	} {
		refused(t, c.key, own, notesWith(t, 20, c.key, c.value), rowOf(t, 40, 40), c.want)
	}
}
