package store_test

import (
	"bytes"
	"math/rand"
	"slices"
	"strings"
	"testing"

	"torrent/api"
	"torrent/disk"
	"torrent/store"
)

// life is what a store does with the two pieces of the chapter, and what of it lasts.
type life struct {
	run   func(s *store.Store, ps []api.Piece, r0, r1 []byte)
	acts  string // its writes and syncs, by the chapter
	claim [2]int // behind how many of its acts a piece can be had
	holds [2]int // behind how many of its acts a piece must be had
}

func puts(s *store.Store, i int, data []byte) {
	for at := 0; at < len(data); at += 64 {
		s.Put(i, at, data[at:min(len(data), at+64)])
	}
}

const never = 1 << 30

func lives() []life {
	return []life{
		{func(s *store.Store, _ []api.Piece, r0, r1 []byte) {
			puts(s, 0, r0)
			s.Finish(0)
			s.Sync()
			puts(s, 1, r1)
			s.Finish(1)
		}, "wwwwsww", [2]int{4, 7}, [2]int{5, never}},
		{func(s *store.Store, _ []api.Piece, r0, r1 []byte) {
			puts(s, 1, r1)
			s.Finish(1)
			puts(s, 0, r0)
			s.Finish(0)
			s.Sync()
		}, "wwwwwws", [2]int{6, 2}, [2]int{7, 7}},
		{func(s *store.Store, _ []api.Piece, r0, r1 []byte) {
			puts(s, 0, make([]byte, 130))
			puts(s, 1, r1)
			s.Finish(0) // wrong
			s.Sync()
			s.Recheck()
			s.Put(0, 64, r0[64:128])
			s.Sync()
		}, "wwwwswws", [2]int{never, 6}, [2]int{never, 8}},
		{func(s *store.Store, ps []api.Piece, r0, r1 []byte) {
			s.Learn(0, ps[0].Hash)
			puts(s, 0, r0)
			s.Sync()
			s.Finish(0)
			puts(s, 0, r1) // refused
			s.Sync()
			s.Sync()
		}, "wwwswss", [2]int{5, never}, [2]int{6, never}},
	}
}

// starts are disks without a good head: blank ones, and ones that bear what looks like another store's, with claims and right bytes.
func starts(t *testing.T) []*disk.Disk {
	t.Helper()
	_, r0, r1 := two()
	blank := made(t, 10)
	var l []*disk.Disk
	for _, old := range [][]byte{head(torrent, 2, 4), head(api.Hash{1}, 2, 4), head(torrent, 3, 4)} {
		d := made(t, 10)
		old[2] ^= 1
		d.Write(0, old)
		d.Write(1, record(1, 1, []byte{0, 0, 0, 0}))
		d.Write(2, record(2, 1, []byte{0, 0, 0, 1}))
		for i := range 3 {
			d.Write(6+i, append(bytes.Clone(r0[64*i:min(130, 64*i+64)]), make([]byte, 64)...)[:64])
		}
		d.Write(9, r1)
		d.Sync()
		l = append(l, d)
	}
	return append(l, blank)
}

// unsynced is how many writes have no sync behind them.
func unsynced(acts string) int { return len(acts) - 1 - strings.LastIndexByte(acts, 's') }

// P14.11: lives from the first Open on, broken off behind each of their acts, in all choices of kept writes and of a torn one.
func TestAllCrashes(t *testing.T) {
	ps, r0, r1 := two()
	for _, start := range starts(t) {
		laying := "wswwwwwsws"
		if b, _ := start.Read(0); bytes.Equal(b, make([]byte, 64)) {
			laying = laying[2:]
		}
		for _, l := range lives() {
			for k := range len(laying+l.acts) + 1 {
				d := start.Copy()
				d.Fuse(k)
				l.run(opened(t, own, d, ps), ps, r0, r1)
				n := unsynced((laying + l.acts)[:k])
				for kept := range 1 << n {
					for torn := -1; torn < n; torn++ {
						for _, cut := range []int{1, 12, 48, 63}[:1+3*min(1, torn+1)] {
							c := d.Copy()
							wants(t, "Crash", c.Crash(keeping(len(d.Pending()), kept), torn, cut), api.OK)
							l.left(t, c, k-len(laying))
						}
					}
				}
			}
		}
	}
}

// left looks at a disk behind a life that was broken off: what is had and what is not; then all can be fetched.
func (l life) left(t *testing.T, d *disk.Disk, acts int) {
	t.Helper()
	ps, r0, r1 := two()
	s := opened(t, own, d, dark(ps, 0))
	for i := range ps {
		had, e := s.Learn(i, ps[i].Hash)
		if e != api.OK || acts >= l.holds[i] && !had || acts < l.claim[i] && had {
			t.Fatalf("behind %d acts: Learn(%d) = %v, %d", acts, i, had, e)
		}
		if b, e := s.Read(i, 0, ps[i].Len); had && (e != api.OK || !bytes.Equal(b, [][]byte{r0, r1}[i])) {
			t.Fatalf("behind %d acts: Read(%d) = %v, %d", acts, i, b, e)
		}
		if had {
			continue
		}
		puts(s, i, [][]byte{r0, r1}[i])
		wants(t, "Finish", s.Finish(i), api.OK)
	}
	s.Sync()
	if b := opened(t, own, d, ps).Have(); b[0] != 192 {
		t.Fatalf("behind %d acts, all fetched: Have %v", acts, b)
	}
}

// shadow is what P14.11 says that must be had, and what may be.
type shadow struct {
	must, may []bool
}

// hear notes what a store has, and whether the disk has made a sync.
func (h *shadow) hear(s *store.Store, synced bool) {
	for i := range h.may {
		had := s.Have()[i/8]&(128>>(i%8)) != 0
		h.may[i] = h.may[i] || had
		if synced {
			h.must[i] = had
		}
	}
}

// agrees holds a store that was just opened against it.
func (h *shadow) agrees(t *testing.T, s *store.Store, known []api.Piece) {
	t.Helper()
	for i, p := range known {
		had := s.Have()[i/8]&(128>>(i%8)) != 0
		if had && !h.may[i] || p.Known && h.must[i] && !had {
			t.Fatalf("the piece %d: had %v, must %v, may %v", i, had, h.must[i], h.may[i])
		}
	}
}

// lived is a store in one life: some calls, the disk's syncs seen by what they leave pending.
func lived(t *testing.T, r *rand.Rand, s *store.Store, d *disk.Disk, h *shadow, ps []api.Piece, data [][]byte) {
	t.Helper()
	for range r.Intn(40) {
		i := r.Intn(len(ps))
		synced := false
		switch r.Intn(8) {
		case 0, 1:
			at := r.Intn((len(data[i])+63)/64) * 64
			b := bytes.Clone(data[i][at:min(len(data[i]), at+64)])
			if r.Intn(9) == 0 {
				b[0]++
			}
			s.Put(i, at, b)
		case 2, 3:
			puts(s, i, data[i])
		case 4:
			full := slices.Repeat([]byte{255}, 9)
			marks, _ := s.Blocks(i)
			e := s.Finish(i)
			if e != api.OK && e != api.ErrStoreBad && e != api.ErrStoreHave && e != api.ErrStoreUnknown && bytes.Equal(marks, full[:len(marks)]) {
				t.Fatalf("Finish = %d", e)
			}
			if e == api.ErrStoreFull {
				t.Fatal("Finish: no room")
			}
		case 5:
			had, e := s.Learn(i, ps[i].Hash)
			if e != api.OK || had && !h.may[i] || !had && h.must[i] {
				t.Fatalf("Learn = %v, %d; must %v, may %v", had, e, h.must[i], h.may[i])
			}
		case 6:
			if _, e := s.Recheck(); e != api.OK {
				t.Fatalf("Recheck = %d", e)
			}
		case 7:
			s.Sync()
			synced = len(d.Pending()) == 0
		}
		h.hear(s, synced)
	}
}

// P14.11: long rows of lives on one disk, the crashes anywhere, within Open and Recheck too; the hashes come and go.
func TestLives(t *testing.T) {
	r := rand.New(rand.NewSource(12))
	for range 150 {
		ps, data := many(r, own, 1+r.Intn(5))
		d := made(t, need(ps)+r.Intn(2))
		if r.Intn(2) == 0 {
			d, _ = disk.Load(content(r, 64*need(ps)))
		}
		h := &shadow{make([]bool, len(ps)), make([]bool, len(ps))}
		for range 15 {
			early := r.Intn(3) == 0
			if early {
				d.Fuse(r.Intn(len(ps) + 8))
			}
			known := someDark(r, ps)
			s := opened(t, own, d, known)
			h.agrees(t, s, known)
			if !early {
				d.Fuse(r.Intn(60))
			}
			lived(t, r, s, d, h, ps, data)
			if e := d.Crash(flips(r, d), r.Intn(len(d.Pending())+1)-1, r.Intn(65)); e != api.OK {
				t.Fatalf("Crash = %d", e)
			}
		}
	}
}

// P14.12: whatever a crash leaves of the scrubbing of an Open, the next one finds the same; and so does an Open behind an Open, which writes nothing.
func TestAgain(t *testing.T) {
	ps, _, r1 := two()
	x := filled(t)
	x.puts(1, r1)
	x.finish(1)
	x.sync()
	x.write(3, record(2, 1, []byte{0, 0, 0, 0})) // in the slot of another
	x.write(4, bytes.Repeat([]byte{74}, 64))
	x.write(5, append(record(5, 1, []byte{0, 0, 0, 1})[:63], 0))
	x.d.Sync()
	for acts := range 5 {
		d := x.d.Copy()
		d.Fuse(acts)
		s := opened(t, own, d, ps)
		l := d.Pending()
		if acts < 4 && !slices.Equal(l, []int{3, 4, 5}) || acts == 4 && len(l) != 0 {
			t.Fatalf("Open writes to %v", l)
		}
		if had := s.Have(); had[0] != 192 {
			t.Fatalf("Have %v", had)
		}
		if acts == 4 {
			again(t, d, ps, 192)
			continue
		}
		for kept := range 8 {
			for torn := -1; torn < 3; torn++ {
				for cut := range 65 {
					c := d.Copy()
					wants(t, "Crash", c.Crash(keeping(3, kept), torn, cut), api.OK)
					again(t, c, ps, 192)
				}
			}
		}
	}
}

// again opens a store twice: it finds that, and the second time nothing is written.
func again(t *testing.T, d *disk.Disk, ps []api.Piece, have byte) {
	t.Helper()
	first := opened(t, own, d, ps).Have()
	image := d.Image()
	d.Fuse(0)
	second := opened(t, own, d, ps).Have()
	if first[0] != have || second[0] != have || len(d.Pending()) != 0 || !bytes.Equal(d.Image(), image) {
		t.Fatalf("Have %v, then %v; Pending %v", first, second, d.Pending())
	}
}
