package vault_test

import (
	"bytes"
	"slices"
	"strings"
	"testing"

	"torrent/api"
	"torrent/vault"
)

// P26.3: which keys may be, by their lengths and whatever bytes.
func TestKeyLengths(t *testing.T) {
	x := begin(t, formatted(t, 100, 0, 100), 0, 100)
	for n := range 300 {
		want := api.ErrVaultKey
		if n >= 1 && n <= 255 {
			want = api.OK
		}
		key := string(some(n, n))
		if e := x.put(key, []byte{1}); e != want {
			t.Fatalf("Put of a key of %d bytes = %d", n, e)
		}
		x.get(key)
		x.commit()
		x.open()
		x.delete(key)
	}
	for b := range 256 {
		x.puts(string([]byte{byte(b)}), nil)
	}
	x.wants(257, 98, 77, x.p.keys()...)
	x.commits()
	x.open()
}

// P26.3, P26.6: a value of the greatest length lies on the disk, and is found again; one byte more is refused.
func TestGreatestValue(t *testing.T) {
	d := formatted(t, 65536, 0, 65536)
	v := opened(t, d, 0, 65536)
	big := slices.Repeat([]byte("0123456789abcdef"), 2097152/16)
	for _, n := range []int{2097152, 2097153, 3 << 20, 1 << 24} {
		want := api.OK
		if n > 2097152 {
			want = api.ErrVaultSize
		}
		if e := v.Put("big", slices.Repeat([]byte{1}, n)); e != want {
			t.Errorf("Put of %d bytes = %d", n, e)
		}
	}
	v.Put("big", big)
	if v.Need() != 34953+1 || v.Free() != 65534 || v.Commit() != api.OK {
		t.Errorf("Need %d, Free %d", v.Need(), v.Free())
	}
	big[5] = 'x'
	v.Put("big", big)
	if v.Free() != 65534-34954 || v.Commit() != api.ErrVaultFull {
		t.Errorf("Free %d", v.Free())
	}
	v = opened(t, d, 0, 65536)
	big[5] = '5'
	if b, e := v.Get("big"); e != api.OK || !bytes.Equal(b, big) {
		t.Errorf("Get = %d bytes, %d", len(b), e)
	}
}

// P26.2: a value that is too long is none, though all sums are right.
func TestTooLongOnTheDisk(t *testing.T) {
	for _, n := range []int{2097152, 2097153} {
		value := bytes.Repeat([]byte{7}, n)
		var places []int
		for i := range (n + 59) / 60 {
			places = append(places, 40000-i)
		}
		f := forged{number: 2, again: 2, keys: []lain{lay("a", value, places...)}, places: []int{0}}
		image := make([]byte, 64*65536)
		f.on(image)
		v, e := vault.Open(loaded(t, image), areaFirst, 65535)
		if n == 2097153 {
			if v != nil || e != api.ErrVaultBad {
				t.Errorf("Open of a value of %d bytes = %d", n, e)
			}
			continue
		}
		if b, f := v.Get("a"); e != api.OK || f != api.OK || !bytes.Equal(b, value) || v.Free() != 65533-34953-1 {
			t.Errorf("Open of a value of %d bytes = %d; Get = %d", n, e, f)
		}
	}
}

// P26.2: a directory may be longer than a value.
func TestLongDirectory(t *testing.T) {
	d := formatted(t, 65536, 0, 65536)
	v := opened(t, d, 0, 65536)
	n := 0
	for size := 0; size <= 2097152; size += 17 + 255 {
		v.Put(strings.Repeat("k", 250)+string([]byte{byte(n >> 32), byte(n >> 24), byte(n >> 16), byte(n >> 8), byte(n)}), nil)
		n++
	}
	if e := v.Commit(); e != api.OK {
		t.Fatalf("Commit = %d", e)
	}
	w := opened(t, d, 0, 65536)
	if w.Number() != 2 || !slices.Equal(w.Keys(), v.Keys()) || len(w.Keys()) != n || w.Free() != v.Free() {
		t.Errorf("there are %d keys, want %d", len(w.Keys()), n)
	}
}

// P26.6: the numbers' end: ErrVaultWorn goes ahead of ErrVaultFull, and behind nothing to do.
func TestWorn(t *testing.T) {
	f := forge(4294967294)
	x := begin(t, f.disk(t), areaFirst, areaCount)
	x.wants(4294967294, 3, 0, "a", "b", "c", "c\x00")
	x.delete("a")
	x.commits()
	x.wants(4294967295, 7, 0, "b", "c", "c\x00")
	x.open()
	x.commits()
	for _, change := range []func(){
		func() { x.puts("a", nil) },
		func() { x.puts("a", some(1, 10000)) },
		func() { x.delete("b") },
		func() { x.delete("b"); x.delete("c"); x.delete("c\x00") },
	} {
		change()
		if e := x.commit(); e != api.ErrVaultWorn {
			t.Errorf("Commit = %d", e)
		}
		x.revert()
		x.commits()
	}
	x.open()
	x.wants(4294967295, 7, 0, "b", "c", "c\x00")
}

// P26.6: numbers go up by one through all their bytes, and the heads lie in their sectors by turns.
func TestNumbers(t *testing.T) {
	for _, from := range []int{2, 253, 65533, 16777213, 2147483645, 4294967290} {
		x := begin(t, forge(from).disk(t), areaFirst, areaCount)
		x.delete("a")
		for i := range 5 {
			x.puts("b", []byte{byte(i)})
			x.commits()
			if x.v.Number() != from+i+1 {
				t.Fatalf("Number = %d", x.v.Number())
			}
			x.open()
		}
	}
}
