package vault_test

import (
	"bytes"
	"maps"
	"math/rand"
	"slices"
	"strings"
	"testing"

	"torrent/api"
	"torrent/disk"
	"torrent/vault"
)

// call is one of the calls that P26.7 speaks of.
type call func(v *vault.Vault)

func commits(v *vault.Vault) { v.Commit() }

func reverts(v *vault.Vault) { v.Revert() }

func deletes(key string) call { return func(v *vault.Vault) { v.Delete(key) } }

func puts(key string, seed, n int) call { return func(v *vault.Vault) { v.Put(key, some(seed, n)) } }

// commitMade is what a commit made last, and behind how many writes and syncs since the opening its head was written, and synced.
type commitMade struct {
	state
	written, synced int
}

// history is the commits of a vault, that which it was opened with ahead of all.
type history []commitMade

// play makes calls, and notes the commits that do something.
func play(t *testing.T, v *vault.Vault, calls ...call) history {
	t.Helper()
	h := history{{state: stateOf(t, v)}}
	acts := 0
	for _, c := range calls {
		was, need := v.Number(), v.Need()
		if c(v); v.Number() != was { // the places, a sync, the head, a sync
			acts += need + 3
			h = append(h, commitMade{stateOf(t, v), acts - 1, acts})
		}
	}
	return h
}

// left is what Open must answer behind a crash that came when so many writes and syncs were made; whole tells whether the first unsynced write was kept whole.
func (h history) left(acts int, whole bool) state {
	last := 0
	for last+1 < len(h) && h[last+1].synced <= acts {
		last++
	}
	if last+1 < len(h) && h[last+1].written == acts && whole {
		last++
	}
	return h[last].state
}

// acts is how many writes and syncs all commits made.
func (h history) acts() int { return h[len(h)-1].synced }

// whole tells whether the first of the unsynced writes is kept whole.
func whole(keep []bool, torn, cut int) bool {
	if torn == 0 {
		return cut == 64
	}
	return len(keep) > 0 && keep[0]
}

// crashed is a copy of a disk behind a crash.
func crashed(t *testing.T, d *disk.Disk, keep []bool, torn, cut int) *disk.Disk {
	t.Helper()
	c := d.Copy()
	if e := c.Crash(keep, torn, cut); e != api.OK {
		t.Fatalf("Crash(%v, %d, %d) = %d", keep, torn, cut, e)
	}
	return c
}

// lives are rows of calls, each with what is there ahead of them; the vault has 8 places.
func lives() map[string][2][]call {
	none := []call{}
	two := []call{puts("a", 1, 61), commits, puts("b", 2, 5), commits}
	return map[string][2][]call{
		"nothing":           {none, {commits}},
		"the first one":     {none, {puts("a", 1, 61), commits}},
		"three":             {none, {puts("a", 1, 10), commits, puts("a", 2, 10), commits, puts("a", 3, 10), commits}},
		"a value anew":      {two, {puts("a", 3, 70), commits}},
		"many places":       {two, {deletes("b"), puts("c", 3, 150), commits}},
		"a key less":        {two, {deletes("a"), commits, puts("c", 4, 120), commits}},
		"no key":            {two, {deletes("a"), deletes("b"), commits, puts("a", 5, 61), commits}},
		"there and back":    {two, {puts("a", 6, 61), commits, puts("a", 1, 61), commits}},
		"without a commit":  {two, {puts("a", 7, 61), deletes("b")}},
		"reverted":          {two, {puts("a", 8, 61), reverts, commits, puts("b", 9, 5), commits}},
		"refused":           {two, {puts("c", 10, 400), commits, puts("c", 10, 1), commits}},
		"a long directory":  {two, {deletes("a"), puts(strings.Repeat("k", 100), 11, 3), commits}},
		"the old places":    {append(two, deletes("b"), commits), {puts("b", 12, 100), commits, puts("b", 13, 100), commits}},
		"an odd number":     {two[:2], {puts("a", 14, 61), commits, puts("b", 15, 1), commits}},
		"same as the older": {append(two, puts("a", 16, 61), commits), {puts("a", 1, 61), commits, puts("a", 16, 61), commits}},
	}
}

// P26.7: lives broken off behind each write and each sync, in all choices of kept writes, each of them torn.
func TestAllCrashes(t *testing.T) {
	for name, life := range lives() {
		start := formatted(t, 12, 1, 10)
		play(t, opened(t, start, 1, 10), life[0]...)
		unbroken := play(t, opened(t, start.Copy(), 1, 10), life[1]...)
		for fuse := range unbroken.acts() + 2 {
			d := start.Copy()
			d.Fuse(fuse)
			h := play(t, opened(t, d, 1, 10), life[1]...)
			if h.acts() != unbroken.acts() {
				t.Fatalf("%s: the vault sees the fuse", name)
			}
			crashAllWays(t, name, d, h, fuse)
		}
	}
}

// crashAllWays crashes a disk in all ways. Of the writes behind the blown fuse none can be kept, so they are all marked so.
func crashAllWays(t *testing.T, name string, d *disk.Disk, h history, fuse int) {
	t.Helper()
	n := len(d.Pending())
	live := min(n, 6)
	for kept := range 1 << live {
		keep := append(keeping(live, kept), slices.Repeat([]bool{true}, n-live)...)
		for torn := -1; torn < live; torn++ {
			for cut := range 65 {
				if torn == -1 && cut > 0 || torn > 0 && cut%9 > 0 || torn >= 0 && keep[torn] {
					continue
				}
				c := crashed(t, d, keep, torn, cut)
				v, e := vault.Open(c, 1, 10)
				if want := h.left(fuse, whole(keep, torn, cut)); e != api.OK || !stateOf(t, v).same(want) {
					t.Fatalf("%s: a crash at %d, %v kept, %d torn at %d leaves %v, %d; want %v", name, fuse, keep, torn, cut, v, e, want)
				}
			}
		}
	}
}

// someCalls is a row of calls at random.
func someCalls(r *rand.Rand) []call {
	var calls []call
	for range r.Intn(30) {
		key := oddKeys()[r.Intn(9)]
		calls = append(calls, []call{commits, commits, puts(key, r.Int(), r.Intn(200)), puts(key, r.Int(), r.Intn(70)), puts(key, 1, 61), deletes(key), deletes(key), reverts}[r.Intn(8)])
		if r.Intn(3) == 0 {
			calls = append(calls, commits)
		}
	}
	return calls
}

// P26.7, P26.8: long lives of an area: what is behind one crash is where the next vault begins.
func TestLives(t *testing.T) {
	r := rand.New(rand.NewSource(8))
	halves := 0
	for range 200 {
		first, count := r.Intn(3), 4+r.Intn(25)
		d := formatted(t, first+count+r.Intn(2), first, count)
		if r.Intn(2) == 0 {
			aged(d, first, count, []int{253, 65533, 16777214, 2147483646}[r.Intn(4)])
		}
		for range 15 {
			start := d.Copy()
			calls := someCalls(r)
			total := play(t, opened(t, d.Copy(), first, count), calls...).acts()
			fuse := r.Intn(total + 2)
			d.Fuse(fuse)
			h := play(t, opened(t, d, first, count), calls...)
			n := len(d.Pending())
			keep, torn, cut := flips(r, d), r.Intn(n+1)-1, r.Intn(66)%65
			d = crashed(t, d, keep, torn, cut)
			want := h.left(fuse, whole(keep, torn, cut))
			for range 2 { // the second Open answers the same
				if s := stateOf(t, opened(t, d, first, count)); !s.same(want) {
					t.Fatalf("a crash at %d of %d, %v kept, %d torn at %d leaves %v, want %v", fuse, total, keep, torn, cut, s, want)
				}
			}
			if fuse < total && want.number > stateOf(t, opened(t, start, first, count)).number {
				halves++
			}
		}
	}
	if halves < 300 {
		t.Errorf("only %d lives were broken off behind a commit", halves)
	}
}

// aged gives the vault of an area, which is empty, a number.
func aged(d *disk.Disk, first, count, number int) {
	d.Write(first+number%2, headText(number, 0, 0, sum8("")))
	d.Write(first+1-number%2, make([]byte, 64))
	d.Sync()
}

// P26.8: behind a Commit that answered OK a crash changes nothing; nothing is unsynced.
func TestCommitLasts(t *testing.T) {
	r := rand.New(rand.NewSource(9))
	for range 100 {
		d := formatted(t, 40, 0, 40)
		v := opened(t, d, 0, 40)
		for _, c := range someCalls(r) {
			if c(v); v.Need() > 0 || v.Commit() != api.OK {
				continue
			}
			if l := d.Pending(); len(l) > 0 {
				t.Fatalf("Pending = %v", l)
			}
			want := stateOf(t, v)
			for range 2 {
				d.Crash(nil, -1, 0)
				if s := stateOf(t, opened(t, d, 0, 40)); !s.same(want) {
					t.Fatalf("behind a crash there is %v, want %v", s, want)
				}
			}
		}
	}
}

// P26.6, P26.7: a commit writes to no place of the one ahead of it, nor to its head.
func TestOldStays(t *testing.T) {
	r := rand.New(rand.NewSource(10))
	for range 200 {
		x := begin(t, formatted(t, 30, 0, 30), 0, 30)
		for range 20 {
			x.calls(r)
			if x.v.Need() > x.v.Free() || x.v.Need() == 0 {
				continue
			}
			was, used, head := x.d.Copy(), slices.Sorted(maps.Keys(x.p.used())), x.v.Number()%2
			x.commits()
			for _, at := range append(used, head-2) {
				a, _ := was.Read(2 + at)
				b, _ := x.d.Read(2 + at)
				if !bytes.Equal(a, b) {
					t.Fatalf("the sector %d of the last commit was written to", 2+at)
				}
			}
		}
	}
}
