package vault_test

import (
	"bytes"
	"math"
	"math/rand"
	"slices"
	"testing"

	"torrent/api"
	"torrent/disk"
	"torrent/vault"
)

// P26.1, P26.2: which areas may be; a refused call leaves the disk as it was.
func TestAreas(t *testing.T) {
	odd := []int{math.MinInt, math.MinInt + 3, -9, -8, -3, -1, 0, 1, 2, 3, 4, 5, 6, 7, 8, 9, 11, math.MaxInt - 8, math.MaxInt - 3, math.MaxInt}
	for _, first := range odd {
		for _, count := range odd {
			if v, e := vault.Open(nil, first, count); v != nil || e != api.ErrNil {
				t.Errorf("Open(nil, %d, %d) = %v, %d", first, count, v, e)
			}
			if e := vault.Format(nil, first, count); e != api.ErrNil {
				t.Errorf("Format(nil, %d, %d) = %d", first, count, e)
			}
			d := made(t, 8)
			d.Write(3, bytes.Repeat([]byte{1}, 64))
			bad, want := api.ErrVaultArea, api.ErrVaultArea
			if count >= 3 && count <= 8 && first >= 0 && first <= 8-count {
				bad, want = api.ErrVaultBad, api.OK
			}
			if v, e := vault.Open(d, first, count); v != nil || e != bad {
				t.Errorf("Open(%d, %d) = %v, %d, want %d", first, count, v, e, bad)
			}
			if b, _ := d.Read(3); b[0] != 1 || !slices.Equal(d.Pending(), []int{3}) {
				t.Errorf("Open(%d, %d) has written or synced", first, count)
			}
			if e := vault.Format(d, first, count); e != want || want != api.OK && !slices.Equal(d.Pending(), []int{3}) {
				t.Errorf("Format(%d, %d) = %d, want %d; Pending %v", first, count, e, want, d.Pending())
			}
			if v, e := vault.Open(d, first, count); e != want || (v == nil) != (e != api.OK) {
				t.Errorf("Open(%d, %d) behind it = %v, %d, want %d", first, count, v, e, want)
			}
		}
	}
	for _, size := range []int{1, 2} {
		if v, e := vault.Open(made(t, size), 0, size); v != nil || e != api.ErrVaultArea {
			t.Errorf("Open on a disk of %d = %v, %d", size, v, e)
		}
	}
	if v, e := vault.Open(new(disk.Disk), 0, 3); v != nil || e != api.ErrVaultArea {
		t.Errorf("Open on a disk that nobody has made = %v, %d", v, e)
	}
}

// noise is a disk that is full of what is no head, with an unsynced write to its last sector.
func noise(t *testing.T, size int) *disk.Disk {
	t.Helper()
	d := loaded(t, bytes.Repeat([]byte{7}, 64*size))
	d.Write(size-1, bytes.Repeat([]byte{8}, 64))
	return d
}

// formats does what the chapter says of Format.
func formats(d *disk.Disk, first int) {
	d.Write(first, make([]byte, 64))
	d.Write(first+1, make([]byte, 64))
	d.Sync()
	d.Write(first+1, headText(1, 0, 0, sum8("")))
	d.Sync()
}

// P26.1: Format writes and syncs just so, in that order, and nothing else: fuses show it.
func TestFormat(t *testing.T) {
	for _, c := range [][2]int{{2, 4}, {0, 3}, {0, 9}, {6, 3}, {1, 8}} {
		for fuse := range 8 {
			d, p := noise(t, 9), noise(t, 9)
			if fuse < 7 {
				d.Fuse(fuse)
				p.Fuse(fuse)
			}
			if e := vault.Format(d, c[0], c[1]); e != api.OK {
				t.Fatalf("Format(%d, %d) = %d", c[0], c[1], e)
			}
			formats(p, c[0])
			// One more write tells whether the fuses are blown alike.
			d.Write(4, bytes.Repeat([]byte{9}, 64))
			p.Write(4, bytes.Repeat([]byte{9}, 64))
			if !slices.Equal(d.Pending(), p.Pending()) || !bytes.Equal(d.Image(), p.Image()) || !bytes.Equal(d.Durable(), p.Durable()) {
				t.Fatalf("Format(%d, %d) with a fuse of %d: Pending %v, want %v", c[0], c[1], fuse, d.Pending(), p.Pending())
			}
			n := len(d.Pending())
			d.Crash(slices.Repeat([]bool{true}, n), -1, 0)
			p.Crash(slices.Repeat([]bool{true}, n), -1, 0)
			if !bytes.Equal(d.Durable(), p.Durable()) {
				t.Fatalf("Format(%d, %d) with a fuse of %d: a crash leaves something else", c[0], c[1], fuse)
			}
		}
	}
}

// P26.1: a Format over an area without a good head, broken off at any place, leaves no vault or the empty one; over any area a Format that was not broken off leaves the empty one.
func TestFormatBrokenOff(t *testing.T) {
	r := rand.New(rand.NewSource(3))
	spoilt := spoiltAreas(t, r)
	for _, image := range spoilt {
		for fuse := range 6 {
			begun := loaded(t, image)
			begun.Fuse(fuse)
			vault.Format(begun, 1, 8)
			n := len(begun.Pending())
			for kept := range 1 << n {
				for torn := -1; torn < n; torn++ {
					for _, cut := range []int{0, 1, 4, 5, 21, 52, 60, 61, 63, 64} {
						d := begun.Copy()
						d.Crash(keeping(n, kept), torn, cut)
						v, e := vault.Open(d, 1, 8)
						if e != api.ErrVaultBad && (e != api.OK || !stateOf(t, v).same(state{1, nil}) || v.Free() != 6) {
							t.Fatalf("a Format broken off at %d leaves %v, %d", fuse, v, e)
						}
						if fuse == 5 && e != api.OK {
							t.Fatalf("a whole Format leaves %d", e)
						}
					}
				}
			}
		}
	}
}

// spoiltAreas are images with an area of the sectors 1 to 8 in which no head is good: of zeros, of noise, and of vaults that were spoilt.
func spoiltAreas(t *testing.T, r *rand.Rand) [][]byte {
	t.Helper()
	all := [][]byte{make([]byte, 64*10), bytes.Repeat([]byte{86}, 64*10), bytes.Repeat([]byte{255}, 64*10)}
	for len(all) < 60 {
		x := begin(t, formatted(t, 10, 1, 8), 1, 8)
		for range 1 + r.Intn(3) {
			x.puts("a", some(r.Int(), r.Intn(70)))
			x.commits()
		}
		image := x.d.Image()
		for _, at := range []int{1, 2} {
			switch r.Intn(3) {
			case 0:
				clear(image[64*at:][:1+r.Intn(64)])
			case 1:
				image[64*at+r.Intn(64)] ^= 1 << r.Intn(8)
			case 2:
				clear(image[64*3:][:64*7]) // the head stays, and leads to nothing
			}
		}
		if find(loaded(t, image), 1, 8) == nil {
			all = append(all, image)
		}
	}
	return all
}

// P26.1: Format over a vault with greater numbers leaves the empty one.
func TestFormatAgain(t *testing.T) {
	for commits := range 4 {
		x := fresh(t)
		for i := range commits {
			x.puts("a", some(i, 10))
			x.commits()
		}
		if e := vault.Format(x.d, 0, 12); e != api.OK {
			t.Fatalf("Format = %d", e)
		}
		formats(x.p.d, 0)
		x.open()
		x.wants(1, 10, 0)
	}
}

// P0.3, P26.7: a vault is of its own area: what lies beside it stays, and two vaults on one disk do not meet.
func TestTwoAreas(t *testing.T) {
	r := rand.New(rand.NewSource(4))
	d := made(t, 20)
	vault.Format(d, 1, 8)
	vault.Format(d, 9, 11)
	a, b := opened(t, d, 1, 8), opened(t, d, 9, 11)
	for i := range 40 {
		a.Put("k", some(i, r.Intn(130)))
		b.Put("k", some(i, r.Intn(200)))
		for _, v := range []*vault.Vault{a, b} {
			if e := v.Commit(); e == api.ErrVaultFull {
				v.Revert()
			}
		}
		if s := stateOf(t, opened(t, d, 1, 8)); !s.same(stateOf(t, a)) {
			t.Fatalf("the first one: %v", s)
		}
		if s := stateOf(t, opened(t, d, 9, 11)); !s.same(stateOf(t, b)) {
			t.Fatalf("the second one: %v", s)
		}
	}
	if b, _ := d.Read(0); !bytes.Equal(b, make([]byte, 64)) {
		t.Error("the sector ahead of the areas was written to")
	}
}
