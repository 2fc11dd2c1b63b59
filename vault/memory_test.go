package vault_test

import (
	"bytes"
	"math/rand"
	"slices"
	"strings"
	"testing"

	"torrent/api"
	"torrent/disk"
	"torrent/vault"
)

// spoil writes over a list and its spare room.
func spoil(b []byte) {
	b = b[:cap(b)]
	for i := range b {
		b[i] ^= 255
	}
}

// P0.4, P26.10: a value that is handed in is not changed, its spare room neither, and not kept.
func TestArguments(t *testing.T) {
	for _, n := range []int{0, 1, 59, 60, 61, 130} {
		x := begin(t, formatted(t, 60, 0, 60), 0, 60)
		for i := range 4 {
			b := some(n+i, 200)
			was := slices.Clone(b)
			x.puts("a", b[:n])
			x.puts("b", b[:n])
			if !bytes.Equal(b, was) {
				t.Fatal("what was handed in has changed")
			}
			spoil(b)
			x.look()
			x.commits()
			x.puts("b", nil)
			x.commits()
			x.revert()
			if spoil(b); !bytes.Equal(b, was) {
				t.Fatal("what was handed in was kept, and has changed")
			}
			x.look()
			if i%2 == 0 {
				x.open()
			}
		}
	}
}

// P0.5, P26.10: answers that are written over and appended to are seen in no vault, on no disk and in no other answer.
func TestAnswers(t *testing.T) {
	r := rand.New(rand.NewSource(11))
	for range 60 {
		x := begin(t, formatted(t, 30, 0, 30), 0, 30)
		for range 40 {
			x.calls(r)
			if r.Intn(10) == 0 {
				x.open()
			}
			l, again := x.v.Keys(), x.v.Keys()
			for i, key := range l {
				one, _ := x.v.Get(key)
				two, _ := x.v.Get(key)
				_ = append(one, 1, 2, 3)
				if spoil(one); string(two) != x.p.hand[key] {
					t.Fatal("what is written into an answer is seen in another")
				}
				l[i] = "spoilt"
			}
			clear(l[:cap(l)])
			_ = append(l[:0], "x", "y")
			if !slices.Equal(again, x.p.keys()) {
				t.Fatal("what is written into an answer is seen in another")
			}
			x.look()
		}
	}
}

// P26.10: what is committed and what is at hand do not share what a caller can reach.
func TestGetThenRevert(t *testing.T) {
	x := fresh(t)
	x.puts("a", []byte("one"))
	x.commits()
	b, _ := x.v.Get("a")
	spoil(b)
	x.look()
	x.puts("a", []byte("two"))
	b, _ = x.v.Get("a")
	spoil(b)
	x.look()
	x.revert()
	x.open()
}

// P0.3: vaults on two disks have nothing to do with each other.
func TestApart(t *testing.T) {
	r := rand.New(rand.NewSource(12))
	a, b := begin(t, formatted(t, 20, 0, 20), 0, 20), begin(t, formatted(t, 20, 0, 20), 0, 20)
	for range 300 {
		a.calls(r)
		b.look()
		b.calls(r)
		a.look()
	}
}

// P0.3: what a vault answers hangs on the calls alone: a second row of the same calls answers the same, in whatever order its maps are gone through.
func TestSameAgain(t *testing.T) {
	for range 20 {
		r, s := rand.New(rand.NewSource(13)), rand.New(rand.NewSource(13))
		d, c := formatted(t, 60, 0, 60), formatted(t, 60, 0, 60)
		v, w := opened(t, d, 0, 60), opened(t, c, 0, 60)
		for range 10 {
			for range 5 {
				v.Put(oddKeys()[r.Intn(11)], some(r.Int(), r.Intn(200)))
				w.Put(oddKeys()[s.Intn(11)], some(s.Int(), s.Intn(200)))
			}
			if e, f := v.Commit(), w.Commit(); e != f || !bytes.Equal(d.Image(), c.Image()) {
				t.Fatalf("Commit = %d, %d", e, f)
			}
		}
	}
}

// P0.6, P26.10: a vault that is nil, and one that Open has not made.
func TestNil(t *testing.T) {
	for _, v := range []*vault.Vault{nil, new(vault.Vault)} {
		for _, key := range []string{"", "a", strings.Repeat("k", 256)} {
			if b, e := v.Get(key); len(b) != 0 || e != api.ErrNil {
				t.Errorf("Get = %v, %d", b, e)
			}
			if e, f := v.Put(key, make([]byte, 3<<20)), v.Delete(key); e != api.ErrNil || f != api.ErrNil {
				t.Errorf("Put = %d, Delete = %d", e, f)
			}
		}
		if e, f := v.Commit(), v.Revert(); e != api.ErrNil || f != api.ErrNil {
			t.Errorf("Commit = %d, Revert = %d", e, f)
		}
		if len(v.Keys()) != 0 || v.Number() != 0 || v.Free() != 0 || v.Need() != 0 {
			t.Errorf("Keys %v, Number %d, Free %d, Need %d", v.Keys(), v.Number(), v.Free(), v.Need())
		}
	}
}

// P0.1, P0.2: where the disk has lost its sectors, its error comes up, and the vault is as it was.
func TestShrunk(t *testing.T) {
	for _, left := range []int{0, 2, 3, 5} { // sectors that are left
		d := formatted(t, 12, 0, 12)
		v := opened(t, d, 0, 12)
		v.Put("a", some(1, 61))
		v.Commit()
		v.Put("b", some(2, 300))
		was, free, need := stateOf(t, v), v.Free(), v.Need()
		*d = disk.Disk{}
		if left > 0 {
			*d = *made(t, left)
		}
		if e := v.Commit(); e != api.ErrSector {
			t.Errorf("Commit = %d", e)
		}
		if s := stateOf(t, v); !s.same(was) || v.Free() != free || v.Need() != need {
			t.Errorf("there is %v, want %v", s, was)
		}
		if e := v.Revert(); e != api.OK || !stateOf(t, v).same(state{2, map[string]string{"a": string(some(1, 61))}}) {
			t.Errorf("Revert = %d", e)
		}
	}
	for _, c := range []struct {
		first, left int
		change      func(v *vault.Vault)
	}{
		{5, 3, func(v *vault.Vault) { v.Delete("a") }},   // a head alone
		{0, 5, func(v *vault.Vault) { v.Put("b", nil) }}, // the directory and the head, for which there is room
	} {
		d := formatted(t, 12, c.first, 7)
		v := opened(t, d, c.first, 7)
		v.Put("a", some(1, 61))
		v.Commit()
		c.change(v)
		want := stateOf(t, v)
		*d = *made(t, c.left)
		if e := v.Commit(); e != api.ErrSector || !stateOf(t, v).same(want) {
			t.Errorf("Commit = %d, and there is %v, want %v", e, stateOf(t, v), want)
		}
	}
}
