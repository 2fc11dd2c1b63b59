package hearth_test

import (
	"math/rand"
	"testing"

	"torrent/api"
	"torrent/disk"
)

// step makes one call at random, on the home and on the plain one.
func (x *watch) step(r *rand.Rand, l []*torrent) {
	x.t.Helper()
	at, peer := r.Intn(len(x.l)+1)-1, r.Intn(5)-1
	of := l[r.Intn(len(l))]
	switch r.Intn(16) {
	case 0, 1:
		x.addText([][]byte{of.text, of.text, of.bare, of.text[:len(of.text)/2]}[r.Intn(4)])
	case 2, 3:
		x.addLink([]string{of.link("x"), of.link(""), of.linkOf(100 + r.Intn(300)), "magnet:?" + of.dict}[r.Intn(4)])
	case 4:
		x.remove(at)
	case 5:
		x.Join(at, peer)
	case 6:
		x.Leave(at, peer)
	case 7:
		x.Tick(at)
	case 8:
		x.Bytes(at, peer, of.giving()[r.Intn(3)][r.Intn(3):])
	case 9, 10:
		if of = x.of(at, l); of != nil {
			x.give(at, peer, of)
		}
	case 11, 12:
		if of = x.of(at, l); of != nil && len(of.files) > 0 {
			x.fetch(at, peer, of, r.Intn(20))
		}
	default:
		x.sync()
	}
}

// of is the torrent of a slot; nil, if there is none.
func (x *watch) of(at int, l []*torrent) *torrent {
	s, e := x.h.State(at)
	for _, of := range l {
		if e == api.OK && of.info == s.Info {
			return of
		}
	}
	return nil
}

// someNotes is a notes' disk that somebody else wrote, for that many slots.
func someNotes(t *testing.T, r *rand.Rand, slots int, l []*torrent) *disk.Disk {
	t.Helper()
	var pairs []string
	places := 0
	for at := range slots {
		of := l[r.Intn(len(l))]
		note := []string{"", "", "L", "Tx", "L" + of.link("x"), "L" + of.linkOf(200), "T" + string(of.text), "T" + string(of.bare)}[r.Intn(8)]
		if note != "" {
			pairs = append(pairs, keyOf(at), note)
			places += (len(note) + 59) / 60
		}
	}
	return notesWith(t, 3+places+slots/2+r.Intn(20), pairs...)
}

// P27.1 to P27.8: rows of calls, with crashes and openings between them.
func TestRows(t *testing.T) {
	r := rand.New(rand.NewSource(2))
	l := torrents(t)
	running, texts := 0, 0
	for range 250 {
		sizes := []int{3 + r.Intn(60)}
		for range r.Intn(5) {
			sizes = append(sizes, 3+r.Intn(50))
		}
		row := rowOf(t, sizes...)
		if r.Intn(3) == 0 {
			row[0] = someNotes(t, r, len(sizes)-1, l)
		}
		x := begin(t, row...)
		for range 60 {
			x.step(r, l)
			switch r.Intn(20) {
			case 0:
				x.open()
			case 1, 2:
				x.crash(r)
			}
		}
		x.look()
		for _, at := range x.h.Slots() {
			if s, _ := x.h.State(at); s.Phase == api.PhaseRunning {
				running++
			}
			if x.p.hand[at][0] == 'T' {
				texts++
			}
		}
	}
	if running < 100 || texts < 100 {
		t.Errorf("only %d torrents ran in the end, %d with texts", running, texts)
	}
}

// P27.7: with notes that homes alone made no Sync is refused.
func TestSyncIsTaken(t *testing.T) {
	r := rand.New(rand.NewSource(3))
	l := torrents(t)
	for range 150 {
		sizes := []int{3 + r.Intn(40)}
		for range 1 + r.Intn(6) {
			sizes = append(sizes, 40)
		}
		x := begin(t, rowOf(t, sizes...)...)
		for range 60 {
			x.step(r, l)
			if r.Intn(3) == 0 {
				x.syncs()
			}
			if r.Intn(15) == 0 {
				x.crash(r)
			}
		}
	}
}
