package vault_test

import (
	"bytes"
	"math/rand"
	"slices"
	"strings"
	"testing"

	"torrent/api"
	"torrent/disk"
)

// oddKeys are keys with order and length at their edges; some may not be.
func oddKeys() []string {
	return []string{"", "a", "b", "\x00", "a\x00", "\xff", "\xff\xff", "slot 1", "ü", strings.Repeat("k", 255), strings.Repeat("k", 256)}
}

// calls makes one call or another, that may be taken or refused.
func (x *watch) calls(r *rand.Rand) {
	x.t.Helper()
	all := oddKeys()
	key := all[r.Intn(len(all))]
	switch r.Intn(12) {
	case 0, 1, 2, 3:
		x.put(key, some(r.Int(), []int{0, 1, 10, 59, 60, 61, 119, 120, 121, 240, r.Intn(500)}[r.Intn(11)]))
	case 4:
		x.put(key, some(7, 70)) // often the same again
	case 5:
		x.put(key, []byte(x.p.committed[key]))
	case 6, 7:
		x.delete(key)
	case 8:
		x.get(key)
	case 9, 10:
		x.commit()
	case 11:
		x.revert()
	}
}

// P26.2 to P26.6, P26.9: random rows of calls, with crashes, fuses, openings and foreign writes among them, beside the plain vault.
func TestRows(t *testing.T) {
	r := rand.New(rand.NewSource(6))
	taken, full := 0, 0
	for range 500 {
		first, count := r.Intn(3), 3+r.Intn(30)
		x := begin(t, formatted(t, first+count+r.Intn(3), first, count), first, count)
		for range 60 {
			was := x.v.Number()
			switch r.Intn(25) {
			default:
				x.calls(r)
			case 0:
				n := len(x.d.Pending())
				x.crash(flips(r, x.d), r.Intn(n+1)-1, r.Intn(65))
			case 1:
				x.fuse(r.Intn(12))
			case 2:
				x.open()
			}
			if x.v.Number() > was {
				taken++
			}
			if x.v.Need() > x.v.Free() {
				full++
			}
		}
	}
	if taken < 1000 || full < 1000 {
		t.Errorf("only %d commits were taken, only %d had no room", taken, full)
	}
}

// P26.6: which acts a Commit does, in which order: behind each number of them a fuse shows it.
func TestActs(t *testing.T) {
	for name, change := range map[string]func(x *watch){
		"two values anew":  func(x *watch) { x.puts("b", some(9, 130)); x.puts("a", some(8, 70)) },
		"a key more":       func(x *watch) { x.puts("d", nil) },
		"a key less":       func(x *watch) { x.delete("b") },
		"all keys":         func(x *watch) { x.delete("a"); x.delete("b"); x.delete("c") },
		"nothing":          func(x *watch) { x.puts("a", some(1, 61)) },
		"there and back":   func(x *watch) { x.puts("z", nil); x.delete("z") },
		"keys and values":  func(x *watch) { x.delete("a"); x.puts("A", some(1, 61)); x.puts("c", some(3, 119)) },
		"a value to none":  func(x *watch) { x.puts("b", nil) },
		"none to a value":  func(x *watch) { x.puts("c", some(4, 1)) },
		"the same length":  func(x *watch) { x.puts("b", some(5, 180)) },
		"deleted, put":     func(x *watch) { x.delete("b"); x.puts("b", some(2, 180)) },
		"a long directory": func(x *watch) { x.puts(strings.Repeat("k", 200), nil) },
	} {
		for fuse := range 20 {
			x := begin(t, formatted(t, 30, 2, 24), 2, 24)
			x.puts("a", some(1, 61))
			x.puts("b", some(2, 180))
			x.puts("c", nil)
			x.commits()
			x.puts("a", some(3, 61))
			x.commits()
			x.puts("a", some(1, 61))
			x.commits()
			change(x)
			x.fuse(fuse)
			x.commits()
			// A write of each disk tells whether the fuses are blown alike.
			for _, d := range []*disk.Disk{x.d, x.p.d} {
				d.Write(0, bytes.Repeat([]byte{9}, 64))
			}
			n := len(x.d.Pending())
			if x.look(); t.Failed() {
				t.Fatal(name)
			}
			x.crash(slices.Repeat([]bool{true}, n), -1, 0)
		}
	}
}

// P26.2: behind Open the disk is not read again.
func TestNotReadAgain(t *testing.T) {
	x := fresh(t)
	x.puts("a", some(1, 100))
	x.puts("b", some(2, 10))
	x.commits()
	x.open()
	for at := range 12 {
		x.d.Write(at, bytes.Repeat([]byte{255}, 64))
		x.p.d.Write(at, bytes.Repeat([]byte{255}, 64))
	}
	x.look()
	x.puts("a", some(3, 5))
	x.revert()
	x.get("a")
	x.puts("b", some(4, 61))
	x.wants(2, 6, 3, "a", "b")
	x.commits()
	x.wants(3, 5, 0, "a", "b")
}

// P26.2: Open reads what was written, synced or not, and leaves it so; a second one answers the same.
func TestOpenOfUnsynced(t *testing.T) {
	x := fresh(t)
	x.fuse(0)
	x.puts("a", some(1, 100))
	x.commits()
	x.puts("b", some(2, 10))
	x.commits()
	was := x.d.Pending()
	if len(was) != 6+1 {
		t.Fatalf("Pending = %v", was)
	}
	for range 2 {
		x.open()
		if x.wants(3, 6, 0, "a", "b"); !slices.Equal(x.d.Pending(), was) {
			t.Errorf("Pending = %v, want %v", x.d.Pending(), was)
		}
	}
}

// P26.3, P26.4, P26.9: refusals leave what is at hand, and it goes on from there.
func TestRefusalsChangeNothing(t *testing.T) {
	x := fresh(t)
	x.puts("a", some(1, 300))
	x.commits()
	x.puts("b", some(2, 240))
	if e := x.commit(); e != api.ErrVaultFull {
		t.Fatalf("Commit = %d", e)
	}
	for key, want := range map[string]api.Errno{"": api.ErrVaultKey, strings.Repeat("b", 256): api.ErrVaultKey, "b": api.ErrVaultSize} {
		if e := x.put(key, make([]byte, 2097153)); e != want {
			t.Errorf("Put of too much at %q = %d, want %d", key, e, want)
		}
	}
	for key, want := range map[string]api.Errno{"": api.ErrVaultKey, strings.Repeat("b", 256): api.ErrVaultKey, "bb": api.ErrVaultNone, "A": api.ErrVaultNone} {
		if e, f := x.get(key), x.delete(key); e != want || f != want {
			t.Errorf("Get, Delete of %q = %d, %d, want %d", key, e, f, want)
		}
	}
	x.wants(2, 4, 5, "a", "b")
	x.delete("a")
	if e := x.commit(); e != api.ErrVaultFull { // what the last commit has may not be written over, wanted or not
		t.Fatalf("Commit = %d", e)
	}
	x.puts("b", some(2, 180))
	x.wants(2, 4, 4, "b")
	x.commits()
	x.wants(3, 6, 0, "b")
	x.puts("b", some(3, 301))
	x.commit()
	x.revert()
	x.puts("b", some(3, 300))
	x.commits()
}

// P26.5: the places that come free are those of what the last commit does not use, and of nothing else.
func TestSmallest(t *testing.T) {
	x := begin(t, formatted(t, 3, 0, 3), 0, 3) // one place
	x.puts("a", nil)
	x.commits()
	x.wants(2, 0, 0, "a")
	x.puts("b", nil)
	if e := x.commit(); e != api.ErrVaultFull {
		t.Errorf("Commit = %d", e)
	}
	x.delete("b")
	x.wants(2, 0, 0, "a")
	x.commits()
	x.delete("a")
	x.wants(2, 0, 0)
	x.commits() // a head alone
	x.wants(3, 1, 0)
	x.puts("a", []byte("x"))
	x.wants(3, 1, 2, "a")
	if e := x.commit(); e != api.ErrVaultFull {
		t.Errorf("Commit = %d", e)
	}
}

// P26.6: what was committed by one vault is gone on with by another.
func TestHandedOn(t *testing.T) {
	r := rand.New(rand.NewSource(7))
	x := begin(t, formatted(t, 40, 3, 33), 3, 33)
	for range 300 {
		x.put(oddKeys()[r.Intn(10)], some(r.Int(), r.Intn(200)))
		if r.Intn(3) == 0 {
			x.delete(oddKeys()[r.Intn(10)])
		}
		if x.commit() != api.OK {
			x.revert()
		}
		v := opened(t, x.d, 3, 33)
		if s, want := stateOf(t, v), (state{x.p.number, x.p.committed}); !s.same(want) || v.Free() != x.p.free() || v.Need() != 0 {
			t.Fatalf("Open answers %v, want %v", s, want)
		}
		x.v = v
		x.look()
	}
	if x.v.Number() < 100 {
		t.Errorf("only %d commits were taken", x.v.Number())
	}
}
