package hearth_test

import (
	"bytes"
	"maps"
	"math/rand"
	"slices"
	"testing"

	"torrent/api"
	"torrent/create"
	"torrent/disk"
	"torrent/hearth"
	"torrent/meta"
	"torrent/vault"
)

// lasting is what P27.9 and P27.10 say of what a Sync made last.
type lasting struct {
	notes map[string]string
	files map[int]map[int]string // by slot those that were complete, and whose hashes the text tells
}

// seen is what a home has, whose notes are those of its disk.
func seen(t *testing.T, h *hearth.Home, notes *disk.Disk) lasting {
	t.Helper()
	l := lasting{notesOn(t, notes), map[int]map[int]string{}}
	for _, at := range h.Slots() {
		l.files[at] = map[int]string{}
		s, _ := h.State(at)
		text, e := h.Text(at)
		if e != api.OK || s.Phase != api.PhaseRunning {
			continue
		}
		m, _ := meta.Parse(own, text)
		pieces, _ := create.List(own, m)
		for file, done := range s.Done {
			first, count, _ := create.Row(m, file)
			if !done || slices.ContainsFunc(pieces[first:first+count], func(p api.Piece) bool { return !p.Known }) {
				continue
			}
			b, e := h.File(at, file)
			wants(t, "File of a complete file", e, api.OK)
			l.files[at][file] = string(b)
		}
	}
	return l
}

// shows fails the test unless a home that was just opened is what was made to last.
func (l lasting) shows(t *testing.T, what string, h *hearth.Home, notes *disk.Disk) {
	t.Helper()
	if got := notesOn(t, notes); !maps.Equal(got, l.notes) {
		t.Fatalf("%s: the notes are %q, want %q", what, got, l.notes)
	}
	held := h.Slots()
	if len(held) != len(l.notes) {
		t.Fatalf("%s: Slots = %v, want those of %q", what, held, l.notes)
	}
	for _, at := range held {
		l.showsIn(t, what, h, at)
	}
}

func (l lasting) showsIn(t *testing.T, what string, h *hearth.Home, at int) {
	t.Helper()
	note := l.notes[keyOf(at)]
	s, e := h.State(at)
	if note == "" || e != api.OK || (s.Phase == api.PhaseRunning) != (note[0] == 'T') || s.Phase == api.PhaseBad {
		t.Fatalf("%s: State(%d) = %+v, %d; the note is %q", what, at, s, e, note)
	}
	if note[0] == 'L' {
		return
	}
	if text, e := h.Text(at); e != api.OK || string(text) != note[1:] {
		t.Fatalf("%s: Text(%d) = %q, %d", what, at, text, e)
	}
	for file, want := range l.files[at] {
		if b, e := h.File(at, file); e != api.OK || string(b) != want {
			t.Fatalf("%s: File(%d, %d) = %q, %d; want %q", what, at, file, b, e, want)
		}
	}
}

// machine is a row of disks on which homes live.
type machine struct {
	t    *testing.T
	r    *rand.Rand
	l    []*disk.Disk // the notes' disk, then the slots'
	pool []*torrent
	last lasting
}

// moment lets the next calls be broken off at one moment, while they work on disks in this order; its place in that order.
func (m *machine) moment(order ...int) int {
	focus := m.r.Intn(len(order))
	m.l[order[focus]].Fuse(m.r.Intn(1 + m.r.Intn(25)))
	for _, i := range order[focus+1:] {
		m.l[i].Fuse(0)
	}
	return order[focus]
}

// crash lets all disks crash at once.
func (m *machine) crash() {
	for _, d := range m.l {
		n := len(d.Pending())
		wants(m.t, "Crash", d.Crash(flips(m.r, n), m.r.Intn(n+1)-1, m.r.Intn(65)), api.OK)
	}
}

// parted are the disks of the slots: those for which a question has the answer yes, and the others.
func (m *machine) parted(is func(slot int) bool) (yes, no []int) {
	for i := 1; i < len(m.l); i++ {
		if is(i - 1) {
			yes = append(yes, i)
		} else {
			no = append(no, i)
		}
	}
	return yes, no
}

// open is a home on the disks, once it isn't broken off by a crash.
func (m *machine) open() *hearth.Home {
	m.t.Helper()
	for m.r.Intn(4) == 0 {
		var notes map[string]string
		if _, e := vault.Open(m.l[0], 0, m.l[0].Size()); e == api.OK {
			notes = notesOn(m.t, m.l[0])
		}
		held, free := m.parted(func(at int) bool { return notes[keyOf(at)] != "" })
		m.moment(slices.Concat([]int{0}, free, held)...)
		m.opened()
		m.crash()
	}
	return m.opened()
}

func (m *machine) opened() *hearth.Home {
	m.t.Helper()
	h, _, e := hearth.Open(own, [20]byte{byte(m.r.Intn(256))}, m.l[0], m.l[1:])
	if h == nil || e != api.OK {
		m.t.Fatalf("Open = %v, %d", h, e)
	}
	return h
}

// step makes calls at random that are no Sync.
func (m *machine) step(h *hearth.Home) {
	at, peer := m.r.Intn(len(m.l)-1), m.r.Intn(4)
	of := m.pool[m.r.Intn(len(m.pool))]
	s, e := h.State(at)
	for _, x := range m.pool {
		if e == api.OK && x.info == s.Info {
			of = x
		}
	}
	switch m.r.Intn(8) {
	case 0, 1:
		h.AddText([][]byte{of.text, of.bare}[m.r.Intn(2)])
	case 2, 3:
		h.AddLink(of.linkOf(100 + m.r.Intn(30)))
	case 4:
		h.Remove(at)
	case 5, 6:
		give(h, at, peer, of)
	}
	if m.r.Intn(2) == 0 && len(of.files) > 0 {
		fetch(h, at, peer, of.seeder(m.t), m.r.Intn(25))
	}
}

// sync is a Sync that is not broken off.
func (m *machine) sync(h *hearth.Home) {
	m.t.Helper()
	wants(m.t, "Sync", h.Sync(), api.OK)
	m.last = seen(m.t, h, m.l[0])
}

// brokenSync is a Sync that a crash breaks off; what it leaves must be shown.
func (m *machine) brokenSync(h *hearth.Home) string {
	m.t.Helper()
	running, others := m.parted(func(at int) bool {
		s, e := h.State(at)
		return e == api.OK && s.Phase == api.PhaseRunning
	})
	at := m.moment(slices.Concat(running, []int{0}, others)...)
	wants(m.t, "Sync", h.Sync(), api.OK)
	next := seen(m.t, h, m.l[0])
	m.crash()
	h = m.opened()
	is := notesOn(m.t, m.l[0])
	switch {
	case slices.Contains(running, at): // nothing was committed yet
		m.last.shows(m.t, "broken off ahead of the commit", h, m.l[0])
		return "ahead"
	case at != 0: // all was committed
		m.last = next
		next.shows(m.t, "broken off behind the commit", h, m.l[0])
		return "behind"
	case maps.Equal(is, m.last.notes):
		m.last.shows(m.t, "broken off within the commit, which is not there", h, m.l[0])
		return "old"
	}
	m.last = next
	next.shows(m.t, "broken off within the commit, which is there", h, m.l[0])
	return "new"
}

// P27.9, P27.10: long lives of a row of disks, with crashes at all moments.
func TestLives(t *testing.T) {
	r := rand.New(rand.NewSource(4))
	pool := torrents(t)
	ways, files := map[string]int{}, 0
	for range 300 {
		m := &machine{t: t, r: r, pool: pool}
		sizes := []int{3 + r.Intn(60)}
		for range 1 + r.Intn(4) {
			sizes = append(sizes, 40)
		}
		m.l = rowOf(t, sizes...)
		for range 8 {
			h := m.open()
			m.last.shows(t, "behind a crash", h, m.l[0])
			for _, l := range m.last.files {
				files += len(l)
			}
			for range r.Intn(12) {
				m.step(h)
				if r.Intn(3) == 0 {
					m.sync(h)
				}
			}
			if r.Intn(3) > 0 {
				ways[m.brokenSync(h)]++
			} else { // any other call works on one disk alone
				n := r.Intn(25)
				for _, d := range m.l {
					d.Fuse(n)
				}
				m.step(h)
			}
			m.crash()
		}
	}
	for _, way := range []string{"ahead", "behind", "old", "new"} {
		if ways[way] < 40 {
			t.Errorf("only %d Syncs were broken off so: %s", ways[way], way)
		}
	}
	if files < 300 {
		t.Errorf("only %d files were there behind crashes", files)
	}
}

// P27.9: a Sync with all that it can have to do, broken off at each moment.
func TestEachMoment(t *testing.T) {
	r := rand.New(rand.NewSource(5))
	one, three, other := example(t), torrents(t)[1], made(t, "other", 64, 70)
	order := []int{2, 3, 0, 1}
	for focus, i := range order {
		for fuse := range 14 {
			for range 12 {
				m := &machine{t: t, r: r, l: rowOf(t, 40, 40, 40, 40)}
				h := m.opened()
				h.AddText(one.text)
				h.AddText(three.text)
				fetch(h, 0, 3, one.seeder(t), 20)
				m.sync(h)
				old := m.last
				wants(t, "Remove", h.Remove(0), api.OK)
				fetch(h, 1, 3, three.seeder(t), 30)
				h.AddLink(other.link("x"))
				give(h, 2, 3, other)
				m.l[i].Fuse(fuse)
				for _, k := range order[focus+1:] {
					m.l[k].Fuse(0)
				}
				wants(t, "Sync", h.Sync(), api.OK)
				next := seen(t, h, m.l[0])
				if len(next.notes) != 2 || len(next.files[1]) != 3 || next.notes["slot 2"] != "T"+string(other.bare) {
					t.Fatal("the Sync has not all that it can have to do")
				}
				m.crash()
				h = m.opened()
				if focus < 2 || focus == 2 && maps.Equal(notesOn(t, m.l[0]), old.notes) {
					old.shows(t, "old", h, m.l[0])
				} else {
					next.shows(t, "new", h, m.l[0])
					if !zeros(m.l[1]) {
						t.Fatal("the disk of the slot that left")
					}
				}
			}
		}
	}
}

// P27.9: behind a Sync a crash changes nothing, and neither does a second opening.
func TestSyncLasts(t *testing.T) {
	m := &machine{t: t, r: rand.New(rand.NewSource(6)), pool: torrents(t)}
	for range 60 {
		m.l = rowOf(t, 40, 40, 40)
		h := m.opened()
		for range 10 {
			m.step(h)
			m.sync(h)
			m.crash()
			for range 2 {
				h = m.opened()
				m.last.shows(t, "behind a Sync", h, m.l[0])
			}
		}
	}
}

// P27.9: with nothing synced, slots and notes are those of the opening; a home on three sectors has room for none.
func TestNothingSynced(t *testing.T) {
	m := &machine{t: t, r: rand.New(rand.NewSource(7)), pool: torrents(t)}
	for n := range 60 {
		m.l = rowOf(t, 3+n, 40, 40)
		h := m.opened()
		for range 6 {
			m.step(h)
		}
		if n == 0 && len(h.Slots()) > 0 {
			t.Error("there is a note where there is no room")
		}
		m.crash()
		m.last.shows(t, "nothing was synced", m.opened(), m.l[0])
		for _, d := range m.l[1:] {
			if !bytes.Equal(d.Image()[:64], noSector) {
				t.Error("a free slot's disk has something in its sector 0")
			}
		}
	}
}
