package hearth_test

import (
	"slices"
	"strings"
	"testing"

	"torrent/api"
	"torrent/disk"
	"torrent/hearth"
)

// P27.2, P27.3, P0.2: the order of refusals.
func TestOrderOfAdding(t *testing.T) {
	one := example(t)
	tooLong := strings.Repeat("x", 2097152)
	x := begin(t, rowOf(t, 5, 40)...)
	_, e := x.addText([]byte(tooLong))
	wants(t, "AddText of 2097152 bytes", e, api.ErrVaultSize)
	_, e = x.addLink(tooLong)
	wants(t, "AddLink of 2097152 bytes", e, api.ErrVaultSize)
	_, e = x.addText([]byte(tooLong[1:]))
	wants(t, "AddText of 2097151 bytes", e, api.ErrVaultFull)
	_, e = x.addText([]byte(strings.Repeat("x", 60)))
	wants(t, "AddText of no text without room", e, api.ErrVaultFull)
	_, e = x.addLink(strings.Repeat("x", 60))
	wants(t, "AddLink of no link without room", e, api.ErrVaultFull)
	_, e = x.addText([]byte("x"))
	wants(t, "AddText of no text", e, api.ErrTextByte)
	_, e = x.addLink("x")
	wants(t, "AddLink of no link", e, api.ErrLinkScheme)
	x.syncs()
	x.noted()

	x = begin(t, rowOf(t, 20, 40)...)
	x.links(one)
	for _, s := range []string{tooLong, tooLong[1:], "x", one.link("x")} {
		_, e = x.addText([]byte(s))
		wants(t, "AddText without a free slot", e, api.ErrHomeDisk)
		_, e = x.addLink(s)
		wants(t, "AddLink without a free slot", e, api.ErrHomeDisk)
	}
	x.removes(0)
	_, e = x.addText([]byte(tooLong))
	wants(t, "AddText where a slot is leaving", e, api.ErrHomeDisk)
}

// P27.2, P27.3: what the client refuses, where there is room.
func TestRefusedByTheClient(t *testing.T) {
	l := rowOf(t, 65536, 40, 5)
	one := example(t)
	x := begin(t, l...)
	_, e := x.addText([]byte(strings.Repeat("x", api.MaxText+1)))
	wants(t, "AddText of too long a text", e, api.ErrTextLong)
	_, e = x.addText([]byte(strings.Repeat("x", 2097151)))
	wants(t, "AddText of the longest value", e, api.ErrTextLong)
	_, e = x.addLink(one.link("x") + strings.Repeat("&tr=x", 300000))
	wants(t, "AddLink of too long a link", e, api.ErrLinkLong)
	if n := x.links(one); n != 0 {
		t.Errorf("AddLink = %d", n)
	}
	_, e = x.addText(one.text)
	wants(t, "AddText of what waits", e, api.ErrPresent)
	_, e = x.addText(one.bare)
	wants(t, "AddText of what waits", e, api.ErrPresent)
	_, e = x.addText(made(t, "small", 64, 70).text)
	wants(t, "AddText on a small disk", e, api.ErrStoreDisk)
	if n := x.links(made(t, "small", 64, 70)); n != 1 { // how much it needs nobody knows yet
		t.Errorf("AddLink = %d", n)
	}
	x.syncs()
	x.crash(nil)
	x.holds(0, 1)
}

// P27.2, P27.3: what was refused is in no note, and takes no room.
func TestRefusedIsTakenOut(t *testing.T) {
	one := example(t)
	for _, text := range []string{string(one.text), string(one.bare), "x", strings.Repeat("y", 200), strings.Repeat("z", 2000), strings.Repeat("z", 2097152)} {
		x := begin(t, rowOf(t, 12, 40, 40, 40)...)
		x.links(one)
		x.syncs()
		was := shot(x.l)
		for range 3 {
			if _, e := x.addText([]byte(text)); e == api.OK {
				t.Fatalf("AddText of %.20q is taken", text)
			}
			if _, e := x.addLink("magnet:?" + text); e == api.OK {
				t.Fatalf("AddLink of %.20q is taken", text)
			}
			x.syncs()
		}
		if !slices.Equal(shot(x.l), was) {
			t.Error("what was refused changes a disk")
		}
		if n := x.links(made(t, "other", 64, 70)); n != 1 {
			t.Errorf("AddLink = %d", n)
		}
	}
}

// P27.2, P27.3: the edges of the room, for notes' disks and links of all lengths.
func TestRoomOfOne(t *testing.T) {
	one := example(t)
	least := len(one.link("")) + len("&dn=") + 1
	for size := 3; size < 14; size++ {
		for n := least; n < 620; n++ {
			h, _, e := hearth.Open(own, us, rowOf(t, size)[0], rowOf(t, 1))
			wants(t, "Open", e, api.OK)
			want := api.OK
			if (n+1+59)/60+2 > size-2 {
				want = api.ErrVaultFull
			}
			if _, e = h.AddLink(one.linkOf(n)); e != want {
				t.Fatalf("%d sectors: AddLink of %d bytes = %d, want %d", size, n, e, want)
			}
			wants(t, "Sync", h.Sync(), api.OK)
		}
	}
}

// P27.2: the directory of many keys counts twice, with the lengths that the keys have.
func TestRoomOfMany(t *testing.T) {
	for size := 40; size < 62; size++ {
		x := begin(t, rowOf(t, append([]int{size}, slices.Repeat([]int{8}, 15)...)...)...)
		full := 0
		for n := range 15 {
			at, e := x.addLink(made(t, "many", 64, n).linkOf(100 + 10*n))
			if e == api.ErrVaultFull {
				full++
			} else if at != n-full {
				t.Fatalf("AddLink = %d, %d", at, e)
			}
			x.syncs()
		}
		if size < 50 && full == 0 {
			t.Errorf("all links went into %d sectors", size)
		}
	}
}

// P27.2, P27.3: the least notes' disk on which links of two places each have room in these slots; in the slots between them there were torrents that are gone.
func TestRoomExactly(t *testing.T) {
	var l [][]int
	for n := range 16 {
		l = append(l, slices.Collect(func(yield func(int) bool) {
			for at := 0; at <= n && yield(at); at++ {
			}
		}))
	}
	l = append(l, []int{10, 11, 12, 13, 14}, []int{10, 12, 14, 16, 18}, []int{10, 11, 12, 13, 100}, []int{9, 10, 99, 100}, []int{99, 100, 101, 102, 103})
	for _, slots := range l {
		keys := 0
		for _, at := range slots {
			keys += 17 + len(keyOf(at))
		}
		least := 2 + 2*len(slots) + 2*((keys+59)/60)
		for size := least - 1; size <= least; size++ {
			if e := addedLast(t, size, slots); (e == api.OK) != (size == least) || e != api.OK && e != api.ErrVaultFull {
				t.Errorf("%d sectors: AddLink into the last of the slots %v = %d", size, slots, e)
			}
		}
	}
}

// addedLast lets just these slots hold links of two places, and answers what adding the last one answers, or the first one that is refused.
func addedLast(t *testing.T, size int, slots []int) api.Errno {
	t.Helper()
	last := slots[len(slots)-1]
	h, _, e := hearth.Open(own, us, rowOf(t, size)[0], slices.Repeat(rowOf(t, 1), last+1))
	wants(t, "Open", e, api.OK)
	for at := range last {
		n, e := h.AddLink(lone(keyOf(at)).linkOf(100))
		if e != api.OK {
			return e
		}
		if n != at {
			t.Fatalf("AddLink = %d, want %d", n, at)
		}
		if !slices.Contains(slots, at) {
			wants(t, "Remove", h.Remove(at), api.OK)
		}
	}
	_, e = h.AddLink(lone(keyOf(last)).linkOf(100))
	return e
}

// P27.2, P27.3: what the last commit uses counts, too, until a Sync has come.
func TestRoomBesideTheLastCommit(t *testing.T) {
	one, other := example(t), made(t, "other", 64, 70)
	x := begin(t, rowOf(t, 10, 40, 40)...)
	_, e := x.addLink(one.linkOf(200))
	wants(t, "AddLink", e, api.OK)
	x.syncs() // 4 places and one: 3 are free
	x.removes(0)
	_, e = x.addLink(other.linkOf(130))
	wants(t, "AddLink of three places where three are free, and one for the directory", e, api.ErrVaultFull)
	_, e = x.addLink(other.linkOf(119))
	wants(t, "AddLink of two places", e, api.OK)
	x.holds(1)
	x.removes(1)
	x.syncs()
	_, e = x.addLink(other.linkOf(130))
	wants(t, "AddLink where all is free", e, api.OK)
	x.holds(0)
}

// P27.2, P27.3: the lowest free slot is meant; one that is leaving is not free.
func TestLowestSlot(t *testing.T) {
	x := begin(t, rowOf(t, 100, 40, 40, 40, 40)...)
	l := torrents(t)
	for i := range 3 {
		if n := x.texts(l[i]); n != i {
			t.Fatalf("AddText = %d, want %d", n, i)
		}
	}
	x.removes(1)
	x.removes(0)
	if n := x.links(l[0]); n != 3 {
		t.Errorf("AddLink = %d", n)
	}
	_, e := x.addLink(l[3].link("x"))
	wants(t, "AddLink where all others are leaving", e, api.ErrHomeDisk)
	x.syncs()
	x.holds(2, 3)
	if n := x.texts(l[3]); n != 0 {
		t.Errorf("AddText = %d", n)
	}
	if n := x.links(l[1]); n != 1 {
		t.Errorf("AddLink = %d", n)
	}
	x.syncs()
	x.crash(nil)
	x.holds(0, 1, 2, 3)
}

// P27.2: with more disks than a client has torrents.
func TestSlotsOfTheClient(t *testing.T) {
	x := begin(t, rowOf(t, append([]int{200}, slices.Repeat([]int{8}, 18)...)...)...)
	for n := range 16 {
		if at := x.links(made(t, "many", 64, n)); at != n {
			t.Fatalf("AddLink = %d", at)
		}
	}
	_, e := x.addLink(made(t, "many", 64, 16).link("x"))
	wants(t, "the seventeenth", e, api.ErrSlots)
	_, e = x.addText([]byte("x"))
	wants(t, "the seventeenth", e, api.ErrSlots)
	x.removes(7)
	if at := x.links(made(t, "many", 64, 16)); at != 16 {
		t.Errorf("AddLink = %d", at)
	}
	x.syncs()
	x.crash(nil)
	x.holds(0, 1, 2, 3, 4, 5, 6, 8, 9, 10, 11, 12, 13, 14, 15, 16)
}

// P27.4: what can be removed, and that its disk stays as it is until Sync.
func TestRemove(t *testing.T) {
	x, one := synced(t)
	x.fetch(0, 3, one, 20)
	x.links(made(t, "other", 64, 70))
	was := shot(x.l)
	for _, at := range []int{-1 << 63, -2, -1, 2, 3, 1 << 32, 1<<63 - 1} {
		wants(t, "Remove", x.remove(at), api.ErrHomeSlot)
	}
	x.removes(0)
	wants(t, "Remove again", x.remove(0), api.ErrHomeSlot)
	x.removes(1)
	wants(t, "Remove again", x.remove(1), api.ErrHomeSlot)
	x.holds()
	if !slices.Equal(shot(x.l), was) {
		t.Error("Remove writes")
	}
	x.syncs()
	if !zeros(x.l[1]) {
		t.Error("the disk isn't wiped")
	}
	wants(t, "Remove of a free slot", x.remove(0), api.ErrHomeSlot)
}

// P27.4, P27.5: who was removed hears nothing more, and another torrent in that slot is another.
func TestRemovedIsGone(t *testing.T) {
	x, one := synced(t)
	if acts := x.Join(0, 5); len(acts) != 1 {
		t.Fatalf("Join = %v", acts)
	}
	x.removes(0)
	for _, at := range []int{-1, 0, 1, 2} {
		if n := len(x.Join(at, 6)) + len(x.Bytes(at, 5, one.giving()[0])) + len(x.Tick(at)) + len(x.Leave(at, 5)); n > 0 {
			t.Errorf("%d acts of the slot %d", n, at)
		}
	}
	x.syncs()
	x.texts(one)
	if acts := x.Join(0, 5); len(acts) != 1 || acts[0].Kind != api.ActSend {
		t.Errorf("Join = %v", acts)
	}
}

// P27.4, P27.5, P27.8: of a torrent that has failed.
func TestFailed(t *testing.T) {
	x := begin(t, notesWith(t, 20, "slot 0", "Tx", "slot 1", "L"), sectors(t, 40), sectors(t, 40))
	for at, why := range []api.Errno{api.ErrTextByte, api.ErrLinkScheme} {
		for _, peer := range []int{0, 1, 7, 1<<63 - 1} {
			acts := x.Join(at, peer)
			if len(acts) != 1 || !sameAct(acts[0], api.Act{Kind: api.ActDrop, Peer: peer, Why: why}) {
				t.Errorf("Join = %v", acts)
			}
		}
		if n := len(x.Join(at, -1)) + len(x.Join(at, -1<<63)) + len(x.Bytes(at, 1, []byte("x"))) + len(x.Tick(at)) + len(x.Leave(at, 1)); n > 0 {
			t.Errorf("%d acts", n)
		}
		x.phase(at, api.PhaseBad, why)
		_, e := x.h.File(at, 0)
		wants(t, "File", e, why)
		_, e = x.h.Text(at)
		wants(t, "Text", e, why)
		_, e = x.h.Answers(at)
		wants(t, "Answers", e, why)
	}
	x.syncs()
	x.noted("Tx", "L")
	one := example(t)
	_, e := x.addText(one.text)
	wants(t, "AddText", e, api.ErrHomeDisk)
	x.removes(0)
	x.syncs()
	x.noted("", "L")
	x.texts(one)
	x.removes(1)
	x.syncs()
	x.noted("T" + string(one.text))
}

// P27.4, P27.6, P27.8: what has failed has nothing to do with the torrents of the client.
func TestFailedBesideOthers(t *testing.T) {
	one := example(t)
	x := begin(t, notesWith(t, 60, "slot 0", "L", "slot 1", "T"+string(one.text), "slot 2", "Lx"), sectors(t, 40), sectors(t, 40), sectors(t, 40))
	x.fetch(1, 3, one, 20)
	x.Join(0, 3)
	x.Leave(0, 3)
	x.Tick(2)
	x.syncs()
	x.noted("L", "T"+string(one.text), "Lx")
	x.removes(0)
	x.phase(1, api.PhaseRunning, api.OK)
	x.phase(2, api.PhaseBad, api.ErrLinkScheme)
	x.syncs()
	x.noted("", "T"+string(one.text), "Lx")
	x.crash(nil)
	x.holds(1, 2)
}

// P27.5: odd peers and bytes.
func TestOddTalk(t *testing.T) {
	x, one := synced(t)
	x.links(made(t, "other", 64, 70))
	for _, at := range []int{-1 << 63, -1, 0, 1, 2, 1<<63 - 1} {
		for _, peer := range []int{-1 << 63, -1, 0, 1<<63 - 1} {
			x.Bytes(at, peer, nil)
			x.Leave(at, peer)
			x.Join(at, peer)
			x.Join(at, peer)
			x.Bytes(at, peer, nil)
			x.Bytes(at, peer, []byte("no handshake at all, but more than sixty-eight bytes of some other text"))
			x.Leave(at, peer)
			x.Join(at, peer)
			x.Bytes(at, peer, one.giving()[0])
		}
		x.Tick(at)
	}
	x.look()
}

// P0.3: two homes have nothing to do with each other.
func TestTwoHomes(t *testing.T) {
	x, y := fresh(t), fresh(t)
	l := torrents(t)
	x.texts(l[0])
	y.texts(l[1])
	x.links(l[1])
	y.removes(0)
	x.look()
	y.links(l[0])
	y.syncs()
	x.syncs()
	x.look()
	y.look()
}

// P0.7, P12.13: a disk without a sector is none to put anything on.
func TestDisksWithoutSectors(t *testing.T) {
	d := &disk.Disk{}
	h, acts, e := hearth.Open(own, us, rowOf(t, 20)[0], []*disk.Disk{d, d})
	if h == nil || len(acts) != 2 || e != api.OK {
		t.Fatalf("Open = %v, %v, %d", h, acts, e)
	}
	one := example(t)
	_, _, e = h.AddText(one.text)
	wants(t, "AddText", e, api.ErrStoreDisk)
	_, e = h.AddLink(one.link("x"))
	wants(t, "AddLink", e, api.OK)
	wants(t, "Remove", h.Remove(0), api.OK)
	wants(t, "Sync", h.Sync(), api.OK)
}
