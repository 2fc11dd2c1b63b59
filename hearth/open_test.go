package hearth_test

import (
	"bytes"
	"math/rand"
	"slices"
	"strconv"
	"strings"
	"testing"

	"torrent/api"
	"torrent/disk"
	"torrent/hearth"
	"torrent/vault"
)

// P27.1, P0.2, P0.8: the scale counts ahead of what is nil, that ahead of what the vault answers.
func TestOrderOfRefusals(t *testing.T) {
	l := rowOf(t, 20, 40, 2)
	for _, sc := range []api.Scale{{}, {Block: 64}, {Block: 32, Width: 32}, {Block: 96, Width: 1}, {Block: 64, Width: 33}, {Block: 32768, Width: 32}, {Block: -64, Width: -1}} {
		refused(t, "a bad scale", sc, nil, nil, api.ErrScale)
		refused(t, "a bad scale", sc, l[2], []*disk.Disk{nil}, api.ErrScale)
		refused(t, "a bad scale", sc, l[0], l[1:], api.ErrScale)
	}
	refused(t, "nothing", own, nil, nil, api.ErrNil)
	refused(t, "nil among the disks", own, l[0], []*disk.Disk{l[1], nil, l[2]}, api.ErrNil)
	refused(t, "nil ahead of a small notes' disk", own, l[2], []*disk.Disk{l[1], nil}, api.ErrNil)
	for n := 1; n <= 2; n++ {
		refused(t, "small notes", own, rowOf(t, n)[0], l[1:2], api.ErrVaultArea)
	}
	refused(t, "notes without a sector", own, &disk.Disk{}, l[1:2], api.ErrVaultArea)
	for _, d := range l {
		if !zeros(d) || len(d.Pending()) > 0 {
			t.Error("a disk was written to")
		}
	}
	h, acts, e := hearth.Open(own, us, rowOf(t, 3)[0], nil)
	if h == nil || len(acts) > 0 || e != api.OK {
		t.Errorf("Open on three sectors without a slot = %v, %v, %d", h, acts, e)
	}
	if n, _, e := h.AddText(example(t).text); n != 0 || e != api.ErrHomeDisk {
		t.Errorf("AddText = %d, %d", n, e)
	}
}

// P27.1: which keys are those of slots.
func TestKeys(t *testing.T) {
	for _, s := range []string{"", "0 ", " 0", "00", "01", "010", "+0", "-0", "-1", "0x1", "1_0", "1a", "a", "1.0", "1\n", "\x00", "\u0663", "1\u0663", "/", ":", "0/", "1:", "0slot 0", strings.Repeat("0", 240)} {
		refused(t, s, own, notesWith(t, 40, "slot "+s, "Lx"), rowOf(t, 40, 40), api.ErrHomeNote)
		refused(t, s, own, notesWith(t, 40, "slot "+s, ""), nil, api.ErrHomeNote)
	}
	for _, s := range []string{"slot0", "Slot 0", "slot\t0", " slot 0", "slot", "slo", "s", "t", "0", "slots 0", "slot  0", "slot 0 slot 0", strings.Repeat("s", 255)} {
		refused(t, s, own, notesWith(t, 40, s, "Lx"), rowOf(t, 40, 40), api.ErrHomeNote)
	}
	for _, s := range []string{"2", "3", "10", "20", "99", "4294967296", "9223372036854775807", "9223372036854775808", "18446744073709551615", "18446744073709551616", "18446744073709551617", "1" + strings.Repeat("0", 240), strings.Repeat("9", 250)} {
		refused(t, s, own, notesWith(t, 40, "slot "+s, "Lx"), rowOf(t, 40, 40), api.ErrHomeDisk)
		refused(t, s, own, notesWith(t, 40, "slot "+s, ""), rowOf(t, 40, 40), api.ErrHomeDisk)
	}
	for b := range 256 {
		want := api.ErrHomeNote
		if b >= '0' && b <= '9' {
			want = api.ErrHomeDisk
		}
		s := string([]byte{byte(b)})
		refused(t, s, own, notesWith(t, 40, "slot 1"+s, "Lx"), rowOf(t, 40, 40), want)
		refused(t, s, own, notesWith(t, 40, "slot 1"+s+"1", "Lx"), rowOf(t, 40, 40), want)
		if want == api.ErrHomeNote {
			refused(t, s, own, notesWith(t, 40, "slot "+s, "Lx"), rowOf(t, 40, 40), want)
			refused(t, s, own, notesWith(t, 40, "slot "+s+"1", "Lx"), rowOf(t, 40, 40), want)
		}
	}
	refused(t, "no slot at all", own, notesWith(t, 40, "slot 0", "Lx"), nil, api.ErrHomeDisk)
	for n := range 13 {
		x := begin(t, append([]*disk.Disk{notesWith(t, 40, "slot 0", "Lx", "slot 9", "Lx", "slot 12", "Tx")}, rowOf(t, slices.Repeat([]int{1}, 13+n)...)...)...)
		x.holds(0, 9, 12)
	}
}

// P27.1: which values are notes.
func TestValues(t *testing.T) {
	for b := range 256 {
		for _, rest := range []string{"", "x"} {
			d := notesWith(t, 20, "slot 0", string([]byte{byte(b)})+rest)
			if b != 76 && b != 84 {
				refused(t, "the value", own, d, rowOf(t, 40), api.ErrHomeNote)
				continue
			}
			begin(t, d, rowOf(t, 40)[0]).holds(0)
		}
	}
}

// P27.1: the first fault counts, by the keys' order, which is that of their bytes.
func TestFirstFault(t *testing.T) {
	for _, c := range []struct {
		want  api.Errno
		pairs []string
	}{
		{api.ErrHomeNote, []string{"slot 2", "Lx", "a", "Lx"}},
		{api.ErrHomeDisk, []string{"slot 2", "Lx", "x", "Lx"}},
		{api.ErrHomeNote, []string{"slot 0", "", "slot 2", "Lx"}},
		{api.ErrHomeNote, []string{"slot 1", "", "slot 10", "Lx"}},
		{api.ErrHomeDisk, []string{"slot 1", "Lx", "slot 10", "Lx", "slot x", ""}},
		{api.ErrHomeNote, []string{"slot 09", "Lx", "slot 10", "Lx"}},
		{api.ErrHomeDisk, []string{"slot 10", "Lx", "slot 1x", "Lx"}},
		{api.ErrHomeNote, []string{"slot", "Lx", "slot 10", "Lx"}},
		{api.ErrHomeNote, []string{"slot 0", "Lx", "slot 1", "x"}},
	} {
		refused(t, strings.Join(c.pairs, ", "), own, notesWith(t, 40, c.pairs...), rowOf(t, 40, 40), c.want)
	}
}

// shot is all that can be seen of disks.
func shot(l []*disk.Disk) (s []string) {
	for _, d := range l {
		s = append(s, string(d.Image()), string(d.Durable()), string(rune(len(d.Pending()))))
	}
	return s
}

// P27.1: with an error nothing was written, and nothing synced.
func TestRefusedOpenWritesNothing(t *testing.T) {
	for _, pairs := range [][]string{{"x", "Lx"}, {"slot 0", "T", "slot 5", "Lx"}, {"slot 0", "T", "slot 1", ""}, {"slot 0", "L", "slot 1", "X"}} {
		l := append([]*disk.Disk{notesWith(t, 20, pairs...)}, rowOf(t, 40, 40, 40)...)
		for i, d := range l {
			d.Write(d.Size()-1, junk)
			if i > 0 {
				d.Write(0, junk)
			}
		}
		was := shot(l)
		if h, _, e := hearth.Open(own, us, l[0], l[1:]); h != nil || e == api.OK {
			t.Fatalf("Open = %v, %d", h, e)
		}
		if !slices.Equal(shot(l), was) {
			t.Error("a refused Open writes")
		}
	}
	l := rowOf(t, 20, 40)
	l[0].Write(5, junk)
	was := shot(l)
	refused(t, "nil", own, l[0], []*disk.Disk{l[1], nil}, api.ErrNil)
	refused(t, "no scale", api.Scale{}, l[0], l[1:], api.ErrScale)
	if !slices.Equal(shot(l), was) {
		t.Error("a refused Open writes")
	}
}

// P27.1: the notes are formatted where there is no vault, whatever lies there; a vault that is there stays.
func TestNotesAreFormatted(t *testing.T) {
	r := rand.New(rand.NewSource(1))
	for range 20 {
		l := rowOf(t, 3+r.Intn(20), 40)
		for at := range l[0].Size() {
			b := make([]byte, 64)
			r.Read(b)
			l[0].Write(at, b)
		}
		x := begin(t, l...)
		x.noted()
		v, e := vault.Open(l[0], 0, l[0].Size())
		if e != api.OK || v.Number() != 1 || len(l[0].Pending()) > 0 {
			t.Fatalf("the vault: %d", e)
		}
	}
	d := notesWith(t, 20, "slot 0", "Lx")
	was := d.Image()
	begin(t, d, rowOf(t, 40)[0]).holds(0)
	if !bytes.Equal(d.Image(), was) {
		t.Error("the notes that are there are written to")
	}
}

// P27.1: the disks of free slots are wiped, if their sector 0 holds anything; else they are not touched, and not synced.
func TestWiped(t *testing.T) {
	for place := -1; place < 64; place++ {
		l := rowOf(t, 20, 40, 1, 40)
		l[0] = notesWith(t, 20, "slot 2", "Tx")
		for _, d := range l[1:] {
			b := make([]byte, 64)
			if place >= 0 {
				b[place] = 1
			}
			d.Write(0, b)
			d.Sync()
			d.Write(d.Size()-1, bytes.Clone(d.Durable()[:64]))
		}
		begin(t, l...)
		for i, want := range []int{0, 0, 1} {
			d := l[1+i]
			if place < 0 {
				want = 1
			}
			if len(d.Pending()) != want || zeros(d) != (place < 0 || i < 2) {
				t.Fatalf("place %d: the disk %d has %v unsynced, and zeros last: %v", place, i, d.Pending(), zeros(d))
			}
		}
	}
}

// P27.1: what is read counts, not what lasts; and the wiping is one write and one sync.
func TestWipedOnce(t *testing.T) {
	l := rowOf(t, 20, 40)
	l[1].Write(0, junk)
	l[1].Sync()
	l[1].Write(0, noSector)
	begin(t, l...)
	if zeros(l[1]) || len(l[1].Pending()) != 1 {
		t.Error("a sector that reads as zeros was written")
	}
	for fuse, want := range []bool{false, false, true} {
		l := rowOf(t, 20, 40)
		l[1].Write(0, junk)
		l[1].Sync()
		l[1].Fuse(fuse)
		begin(t, l...)
		wants(t, "Crash", l[1].Crash(make([]bool, len(l[1].Pending())), -1, 0), api.OK)
		if zeros(l[1]) != want {
			t.Errorf("with a fuse of %d the disk is wiped: %v", fuse, zeros(l[1]))
		}
	}
}

// P27.1: torrents are started by their slots' numbers, whatever order their keys have; the acts lie by slot.
func TestStartedInOrder(t *testing.T) {
	one, other := example(t), made(t, "other", 64, 70)
	sizes := append([]int{60}, slices.Repeat([]int{40}, 11)...)
	l := rowOf(t, sizes...)
	l[0] = notesWith(t, 60, "slot 2", "T"+string(one.text), "slot 10", "T"+string(one.text), "slot 3", "L"+other.link("x"), "slot 0", "T"+string(other.text))
	l[3] = one.filled(t)
	x := begin(t, l...)
	x.holds(0, 2, 3, 10)
	x.phase(0, api.PhaseRunning, api.OK)
	x.phase(2, api.PhaseRunning, api.OK)
	x.phase(3, api.PhaseBad, api.ErrPresent)
	x.phase(10, api.PhaseBad, api.ErrPresent)
	acts := x.open()
	for at := range acts {
		want := 0
		if at == 2 {
			want = 2
		}
		if len(acts[at]) != want {
			t.Errorf("the acts of slot %d are %v", at, acts[at])
		}
	}
}

// P27.1: what can't be started has failed, each for its own reason; its disk is as it was.
func TestFailedStarts(t *testing.T) {
	one, other := example(t), made(t, "other", 64, 70)
	long := made(t, "long", 64, 3000)
	long.text = []byte("i0e" + strings.Repeat(" ", 500))
	for _, c := range []struct {
		note string
		d    *disk.Disk
		want api.Errno
	}{
		{"T", rowOf(t, 40)[0], api.ErrTextEnd},
		{"Tx", rowOf(t, 40)[0], api.ErrTextByte},
		{"Tde", rowOf(t, 40)[0], api.ErrMetaShape},
		{"T" + string(long.text), rowOf(t, 40)[0], api.ErrTextTrail},
		{"T" + string(one.text), rowOf(t, one.need-1)[0], api.ErrStoreDisk},
		{"T" + string(one.text), &disk.Disk{}, api.ErrStoreDisk},
		{"T" + string(one.text), other.filled(t), api.ErrStoreOther},
		{"T" + string(other.text), one.filled(t), api.ErrStoreDisk},
		{"L", rowOf(t, 40)[0], api.ErrLinkScheme},
		{"Lmagnet:?dn=x", rowOf(t, 40)[0], api.ErrLinkHash},
		{"L" + one.link("x") + "&", rowOf(t, 40)[0], api.ErrLinkForm},
		{"L" + string(one.text), rowOf(t, 40)[0], api.ErrLinkScheme},
	} {
		if c.d.Size() > 0 {
			c.d.Write(c.d.Size()-1, c.d.Image()[:64])
		}
		was := shot([]*disk.Disk{c.d})
		x := begin(t, notesWith(t, 60, "slot 0", c.note), c.d)
		if s, e := x.h.State(0); e != api.OK || s.Phase != api.PhaseBad || s.Why != c.want {
			t.Errorf("State of %.20q = %+v, %d; want %d", c.note, s, e, c.want)
		}
		x.holds(0)
		if !slices.Equal(shot([]*disk.Disk{c.d}), was) {
			t.Error("the disk of a torrent that can't be started was written to")
		}
	}
}

// P27.1: a client has 16 torrents; those in higher slots have failed.
func TestTooMany(t *testing.T) {
	var pairs []string
	sizes := []int{100}
	for at := range 20 {
		pairs = append(pairs, "slot "+strconv.Itoa(at), "L"+made(t, "many", 64, at+1).link(""))
		sizes = append(sizes, 40)
	}
	l := rowOf(t, sizes...)
	l[0] = notesWith(t, 100, pairs...)
	x := begin(t, l...)
	for at := range 20 {
		if at < 16 {
			x.phase(at, api.PhaseWaiting, api.OK)
		} else {
			x.phase(at, api.PhaseBad, api.ErrSlots)
		}
	}
	x.removes(3)
	x.syncs()
	x.removes(19)
	x.phase(16, api.PhaseBad, api.ErrSlots)
	x.open()
	x.phase(16, api.PhaseWaiting, api.OK)
}
