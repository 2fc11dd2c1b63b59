package journal_test

import (
	"bytes"
	"math"
	"math/rand"
	"slices"
	"testing"

	"torrent/api"
	"torrent/disk"
	"torrent/journal"
)

// P13.1, P13.2: which rings may be; a refused call leaves the disk as it was.
func TestRings(t *testing.T) {
	odd := []int{math.MinInt, math.MinInt + 3, -9, -8, -3, -1, 0, 1, 2, 3, 4, 5, 6, 7, 8, 9, 11, math.MaxInt - 8, math.MaxInt - 3, math.MaxInt}
	for _, first := range odd {
		for _, count := range odd {
			if j, e := journal.Open(nil, first, count); j != nil || e != api.ErrNil {
				t.Errorf("Open(nil, %d, %d) = %v, %d", first, count, j, e)
			}
			if e := journal.Format(nil, first, count); e != api.ErrNil {
				t.Errorf("Format(nil, %d, %d) = %d", first, count, e)
			}
			d := made(t, 8)
			d.Write(3, bytes.Repeat([]byte{1}, 64))
			want := api.ErrRing
			if count >= 3 && count <= 8 && first >= 0 && first <= 8-count {
				want = api.OK
			}
			if j, e := journal.Open(d, first, count); e != want || (j == nil) != (e != api.OK) {
				t.Errorf("Open(%d, %d) = %v, %d, want %d", first, count, j, e, want)
			}
			if b, _ := d.Read(3); b[0] != 1 || !slices.Equal(d.Pending(), []int{3}) {
				t.Errorf("Open(%d, %d) has written or synced", first, count)
			}
			if e := journal.Format(d, first, count); e != want || want != api.OK && !slices.Equal(d.Pending(), []int{3}) {
				t.Errorf("Format(%d, %d) = %d, want %d; Pending %v", first, count, e, want, d.Pending())
			}
		}
	}
	for _, size := range []int{1, 2} {
		if j, e := journal.Open(made(t, size), 0, size); j != nil || e != api.ErrRing {
			t.Errorf("Open on a disk of %d = %v, %d", size, j, e)
		}
	}
	if j, e := journal.Open(new(disk.Disk), 0, 3); j != nil || e != api.ErrRing {
		t.Errorf("Open on a disk that nobody has made = %v, %d", j, e)
	}
}

// noise is a disk that is full of what is no record, with an unsynced write to its first sector.
func noise(t *testing.T, size int) *disk.Disk {
	t.Helper()
	d := loaded(t, bytes.Repeat([]byte{7}, 64*size))
	d.Write(0, bytes.Repeat([]byte{8}, 64))
	return d
}

// P13.1: Format writes zeros to the ring's sectors, from the first on, and nowhere else, and then syncs once.
func TestFormat(t *testing.T) {
	for _, c := range [][2]int{{2, 4}, {0, 3}, {0, 9}, {6, 3}} {
		first, count := c[0], c[1]
		want := slices.Concat(bytes.Repeat([]byte{8}, 64), bytes.Repeat([]byte{7}, 64*8))
		clear(want[64*first:][:64*count])
		d := noise(t, 9)
		if e := journal.Format(d, first, count); e != api.OK || len(d.Pending()) != 0 || !bytes.Equal(d.Durable(), want) {
			t.Errorf("Format(%d, %d) = %d, Pending %v", first, count, e, d.Pending())
		}
		for n := range count + 3 {
			d := noise(t, 9)
			d.Fuse(n)
			journal.Format(d, first, count)
			if n <= count { // the sync is not made: all writes are there to be seen
				l := []int{0}
				for i := range count {
					l = append(l, first+i)
				}
				if !slices.Equal(d.Pending(), l) {
					t.Fatalf("Format(%d, %d) writes to %v", first, count, d.Pending())
				}
			}
			d.Write(8, bytes.Repeat([]byte{9}, 64))
			d.Crash(slices.Repeat([]bool{true}, len(d.Pending())), -1, 0)
			b, _ := d.Read(8)
			if taken := b[0] == 9; taken != (n > count+1) {
				t.Errorf("Format(%d, %d) does not make just %d writes and one sync", first, count, count)
			}
		}
	}
}

// P13.2: a sector whose digest and second number are right, but not its fields, holds no record.
func TestNoRecords(t *testing.T) {
	good := func() []byte { return text(5, 5, 7, []byte("abc"))[:52] }
	behind := text(6, 5, 1, nil) // is whole if the record 5 is there
	for name, change := range map[string]func(b []byte) int{
		"another first byte":      func(b []byte) int { b[0] = 75; return 5 },
		"a first byte 0":          func(b []byte) int { b[0] = 0; return 5 },
		"the number 0, no low":    func(b []byte) int { b[4], b[8] = 0, 0; return 0 },
		"the number 0, a low":     func(b []byte) int { b[4] = 0; return 0 },
		"a number far from it":    func(b []byte) int { b[1], b[5] = 1, 1; return 5 },
		"the low 0":               func(b []byte) int { b[8] = 0; return 5 },
		"a low above the number":  func(b []byte) int { b[8] = 6; return 5 },
		"a huge low":              func(b []byte) int { b[5] = 255; return 5 },
		"37 bytes":                func(b []byte) int { b[10] = 37; return 5 },
		"41 bytes":                func(b []byte) int { b[10] = 41; return 5 },
		"42 bytes":                func(b []byte) int { b[10] = 42; return 5 },
		"53 bytes":                func(b []byte) int { b[10] = 53; return 5 },
		"54 bytes":                func(b []byte) int { b[10] = 54; return 5 },
		"255 bytes":               func(b []byte) int { b[10] = 255; return 5 },
		"the kind 0 with data":    func(b []byte) int { b[9] = 0; return 5 },
		"fewer bytes than data":   func(b []byte) int { b[10] = 2; return 5 },
		"a byte behind the data":  func(b []byte) int { b[14] = 1; return 5 },
		"a byte at the data's 36": func(b []byte) int { b[46] = 1; return 5 },
		"a byte at 47":            func(b []byte) int { b[47] = 1; return 5 },
		"a byte at 51":            func(b []byte) int { b[51] = 128; return 5 },
		"another second number":   func(b []byte) int { return 9 },
		"another first number":    func(b []byte) int { b[4] = 9; return 5 },
	} {
		b := good()
		again := change(b)
		x := begin(t, loaded(t, sealed(b, again), behind, make([]byte, 64*2)), 0, 4)
		if x.j.Last() != 0 || x.j.Clean() {
			t.Errorf("%s: Last %d, Clean %v", name, x.j.Last(), x.j.Clean())
		}
	}
	begin(t, loaded(t, sealed(good(), 5), behind, make([]byte, 64*2)), 0, 4).wants(5, 6, 5, 6)
	for _, c := range []struct {
		b    []byte
		want int
	}{
		{text(5, 5, 7, []byte("abc")), 5}, {text(5, 5, 0, nil), 5}, {text(5, 5, 255, make([]byte, 36)), 5},
		{text(1, 1, 1, bytes.Repeat([]byte{255}, 36)), 1}, {text(4294967293, 4294967293, 1, nil), 4294967293},
	} {
		if x := begin(t, loaded(t, c.b, make([]byte, 192)), 0, 4); x.j.Last() != c.want || !x.j.Clean() {
			t.Errorf("a record alone: Last %d, want %d, Clean %v", x.j.Last(), c.want, x.j.Clean())
		}
	}
}

// sector is one that a ring of that many sectors may have behind whatever: a record near a number, mostly in its own slot, whole or spoilt, or none.
func sector(r *rand.Rand, at, count, near int) []byte {
	if r.Intn(6) == 0 {
		return [][]byte{make([]byte, 64), content(r, 64)}[r.Intn(2)]
	}
	seq := near + r.Intn(2*count)
	if r.Intn(12) > 0 {
		seq += (at - (seq-1)%count + count) % count
	}
	seq = min(max(seq, 1), 4294967295)
	low := max(1, seq-r.Intn(count+1))
	if r.Intn(20) == 0 {
		low = 1 + r.Intn(seq)
	}
	b := text(seq, low, 0, nil)
	if kind := r.Intn(4); kind > 0 {
		b = text(seq, low, kind, content(r, r.Intn(37)))
	}
	if r.Intn(15) == 0 {
		b[r.Intn(64)] ^= 1 << r.Intn(8)
	}
	return b
}

// P13.2, P13.3, P13.4, P13.8, P13.9: rings with whatever in their sectors, opened, opened again, scrubbed and gone on with.
func TestOpenWhatever(t *testing.T) {
	r := rand.New(rand.NewSource(1))
	lasts := 0
	for range 6000 {
		first, count := r.Intn(3), 3+r.Intn(6)
		near := []int{1, 1, 2, 250, 65530, 1 << 24, 4294967295 - 3*count, 4294967290}[r.Intn(8)]
		d := made(t, first+count+r.Intn(3))
		for at := range count {
			d.Write(first+at, sector(r, at, count, near))
		}
		if r.Intn(2) == 0 {
			d.Sync()
		}
		x := begin(t, d, first, count)
		if x.j.Last() > 0 {
			lasts++
		}
		x.open()
		was := stateOf(x.j)
		for range r.Intn(3) {
			x.calls(r)
		}
		if !x.j.Clean() {
			x.scrub()
			x.open()
			if s := stateOf(x.j); !s.same(was) || !x.j.Clean() {
				t.Fatalf("Scrub changes what Open answers: %v, want %v", s, was)
			}
		}
		for range 6 {
			x.calls(r)
		}
	}
	if lasts < 2000 {
		t.Fatalf("%d rings with a last record: the test tries too little", lasts)
	}
}

// P13.2: of several runs of records the one with the greatest whole number counts, wherever the ring's seam lies.
func TestRuns(t *testing.T) {
	for _, near := range []int{1, 2, 3, 4, 5, 1000, 65534, 4294967283} {
		for gap := range 12 { // the number that is not there
			for low := range 12 {
				d := made(t, 12)
				for i := range 12 {
					if i != gap {
						d.Write((near+i-1)%12, text(near+i, near+min(i, low), 1+i%2, []byte{byte(i)}))
					}
				}
				x := begin(t, d, 0, 12)
				want := 0
				for i := range 12 {
					if i < gap || i > gap && min(i, low) > gap {
						want = near + i
					}
				}
				if x.j.Last() != want {
					t.Errorf("from %d on, without %d, the low %d: Last %d, want %d", near, gap, low, x.j.Last(), want)
				}
			}
		}
	}
}

// P13.2: a ring as large as a disk can be, wholly full and wholly in one run.
func TestLarge(t *testing.T) {
	const count = api.MaxSectors
	d := made(t, count)
	for n := 100; n < 100+count; n++ {
		d.Write((n-1)%count, text(n, 100, 1, []byte{byte(n)}))
	}
	j := opened(t, d, 0, count)
	if j.Low() != 100 || j.Last() != 99+count || len(j.Live()) != count || !j.Clean() || j.Room() != 0 || j.Trim(101) != api.ErrFull {
		t.Errorf("Low %d, Last %d, %d live, Clean %v, Room %d", j.Low(), j.Last(), len(j.Live()), j.Clean(), j.Room())
	}
	if e := journal.Format(d, 0, count); e != api.OK {
		t.Errorf("Format = %d", e)
	}
	if l := j.Live(); len(l) != count || int(l[count-1].Data[0]) != (count+99)%256 {
		t.Error("the journal reads records again")
	}
	j = opened(t, d, 0, count)
	for n := 1; n < count; n++ {
		if seq, e := j.Append(1, nil); seq != n || e != api.OK {
			t.Fatalf("Append = %d, %d, want %d", seq, e, n)
		}
	}
	if n, e := j.Append(1, nil); n != 0 || e != api.ErrFull || j.Trim(count) != api.OK || j.Sync() != api.OK || j.Room() != count-2 {
		t.Errorf("Append to a full ring = %d, %d; Room %d behind a Trim", n, e, j.Room())
	}
	for to := count + 1; to < count+4000; to++ {
		if _, e := j.Append(1, nil); e != api.OK || j.Trim(to) != api.OK {
			t.Fatalf("Append and Trim(%d): %d", to, e)
		}
	}
}
