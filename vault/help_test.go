package vault_test

import (
	"bytes"
	"crypto/sha256"
	"encoding/binary"
	"maps"
	"math/rand"
	"slices"
	"testing"

	"torrent/api"
	"torrent/disk"
	"torrent/vault"
)

// sum8 is the sum of bytes, by the library of Go.
func sum8[T string | []byte](b T) []byte {
	h := sha256.Sum256([]byte(b))
	return h[:8]
}

func four(n int) []byte { return binary.BigEndian.AppendUint32(nil, uint32(n)) }

func number(b []byte) int { return int(binary.BigEndian.Uint32(b)) }

// headText is the sector of a head, by the chapter's table.
func headText(s, start, size int, sum []byte) []byte {
	b := slices.Concat([]byte{86}, four(s), four(start), four(size), sum, make([]byte, 31))
	return slices.Concat(b, sum8(b), four(s))
}

// plain is a vault as the document tells of it, on a disk of its own.
type plain struct {
	d               *disk.Disk
	first, count    int
	number          int
	committed, hand map[string]string
	chains          map[string][]int // the places of the committed values
	directory       []int            // those of the directory
}

func (p *plain) sector(at int) []byte {
	b, _ := p.d.Read(p.first + at)
	return b
}

// find is the plain vault that an area holds; nil, if neither head is good.
func find(d *disk.Disk, first, count int) *plain {
	var best *plain
	for at := range 2 {
		p := &plain{d: d, first: first, count: count, committed: map[string]string{}, chains: map[string][]int{}}
		if p.good(at) && (best == nil || p.number > best.number) {
			best = p
		}
	}
	if best != nil {
		best.revert()
	}
	return best
}

// good looks whether the head in a sector is good, and takes what it leads to.
func (p *plain) good(at int) bool {
	b := p.sector(at)
	s := number(b[1:])
	if s == 0 || s%2 != at || !bytes.Equal(b, headText(s, number(b[5:]), number(b[9:]), b[13:21])) {
		return false
	}
	p.number = s
	met := map[int]bool{}
	dir, places, ok := p.follow(b[5:21], met)
	p.directory = places
	last := ""
	for ok && len(dir) > 0 {
		n := int(dir[0])
		if n == 0 || len(dir) < 17+n {
			return false
		}
		key := string(dir[1 : 1+n])
		value, places, right := p.follow(dir[1+n:17+n], met)
		ok = right && len(value) <= 2097152 && bytes.Compare([]byte(key), []byte(last)) > 0
		p.committed[key], p.chains[key] = string(value), places
		dir, last = dir[17+n:], key
	}
	return ok
}

// follow is the chain to which the start, the length and the sum in these bytes lead.
func (p *plain) follow(b []byte, met map[int]bool) (data []byte, places []int, ok bool) {
	next, size := number(b), number(b[4:])
	for want := (size + 59) / 60; want > 0; want-- {
		place := next - 1
		if place < 0 || place >= p.count-2 || met[place] {
			return nil, nil, false
		}
		met[place] = true
		places = append(places, place)
		s := p.sector(2 + place)
		next = number(s)
		data = append(data, s[4:]...)
	}
	if next != 0 {
		return nil, nil, false
	}
	data = data[:size]
	return data, places, bytes.Equal(sum8(data), b[8:16])
}

func (p *plain) revert() api.Errno {
	p.hand = maps.Clone(p.committed)
	return api.OK
}

func mayBe(key string) bool { return len(key) > 0 && len(key) < 256 }

func (p *plain) put(key string, value []byte) api.Errno {
	switch {
	case !mayBe(key):
		return api.ErrVaultKey
	case len(value) > 2097152:
		return api.ErrVaultSize
	}
	p.hand[key] = string(value)
	return api.OK
}

func (p *plain) get(key string) (string, api.Errno) {
	value, there := p.hand[key]
	switch {
	case !mayBe(key):
		return "", api.ErrVaultKey
	case !there:
		return "", api.ErrVaultNone
	}
	return value, api.OK
}

func (p *plain) delete(key string) api.Errno {
	_, e := p.get(key)
	if e == api.OK {
		delete(p.hand, key)
	}
	return e
}

func (p *plain) keys() []string { return slices.Sorted(maps.Keys(p.hand)) }

// used are the places of the last commit's head.
func (p *plain) used() map[int]bool {
	used := map[int]bool{}
	for _, l := range append(slices.Collect(maps.Values(p.chains)), p.directory) {
		for _, place := range l {
			used[place] = true
		}
	}
	return used
}

func (p *plain) free() int { return p.count - 2 - len(p.used()) }

// fresh are the keys at hand that are not committed with the same value.
func (p *plain) fresh() []string {
	return slices.DeleteFunc(p.keys(), func(key string) bool {
		value, there := p.committed[key]
		return there && value == p.hand[key]
	})
}

func (p *plain) need() int {
	if maps.Equal(p.hand, p.committed) {
		return 0
	}
	n, size := 0, 0
	for _, key := range p.fresh() {
		n += (len(p.hand[key]) + 59) / 60
	}
	for key := range p.hand {
		size += 17 + len(key)
	}
	return n + (size+59)/60
}

func (p *plain) commit() api.Errno {
	switch {
	case maps.Equal(p.hand, p.committed):
		return api.OK
	case p.number == 4294967295:
		return api.ErrVaultWorn
	case p.need() > p.free():
		return api.ErrVaultFull
	}
	taken, fresh, chains := p.used(), p.fresh(), map[string][]int{}
	var dir []byte
	for _, key := range p.keys() {
		chains[key] = p.chains[key]
		if slices.Contains(fresh, key) {
			chains[key] = p.lay([]byte(p.hand[key]), taken)
		}
		dir = append(append(dir, byte(len(key))), key...)
		dir = slices.Concat(dir, four(startOf(chains[key])), four(len(p.hand[key])), sum8(p.hand[key]))
	}
	p.directory = p.lay(dir, taken)
	p.d.Sync()
	p.number++
	p.d.Write(p.first+p.number%2, headText(p.number, startOf(p.directory), len(dir), sum8(dir)))
	p.d.Sync()
	p.committed, p.chains = maps.Clone(p.hand), chains
	return api.OK
}

func startOf(places []int) int {
	if len(places) == 0 {
		return 0
	}
	return places[0] + 1
}

// lay writes bytes into the lowest places that are not taken.
func (p *plain) lay(data []byte, taken map[int]bool) []int {
	var places []int
	for at := 0; len(places) < (len(data)+59)/60; at++ {
		if !taken[at] {
			places = append(places, at)
			taken[at] = true
		}
	}
	for i, place := range places {
		next := startOf(places[i+1:])
		part := data[60*i : min(60*i+60, len(data))]
		p.d.Write(p.first+2+place, slices.Concat(four(next), part, make([]byte, 60-len(part))))
	}
	return places
}

// state is what P26.7 speaks of.
type state struct {
	number int
	held   map[string]string
}

func (s state) same(o state) bool { return s.number == o.number && maps.Equal(s.held, o.held) }

// stateOf is the number of a vault, and what is at hand.
func stateOf(t *testing.T, v *vault.Vault) state {
	t.Helper()
	s := state{v.Number(), map[string]string{}}
	for _, key := range v.Keys() {
		value, e := v.Get(key)
		if e != api.OK {
			t.Fatalf("Get(%q), which is listed, = %d", key, e)
		}
		s.held[key] = string(value)
	}
	return s
}

// opened is the vault of an area that has one.
func opened(t *testing.T, d *disk.Disk, first, count int) *vault.Vault {
	t.Helper()
	v, e := vault.Open(d, first, count)
	if v == nil || e != api.OK {
		t.Fatalf("Open(%d, %d) = %v, %d", first, count, v, e)
	}
	return v
}

// made is a disk of so many zero sectors.
func made(t *testing.T, size int) *disk.Disk {
	t.Helper()
	d, e := disk.New(size)
	if e != api.OK {
		t.Fatalf("New(%d) = %d", size, e)
	}
	return d
}

// loaded is a disk on which these bytes last.
func loaded(t *testing.T, image []byte) *disk.Disk {
	t.Helper()
	d, e := disk.Load(image)
	if e != api.OK {
		t.Fatalf("Load = %d", e)
	}
	return d
}

// formatted is a disk with an empty vault.
func formatted(t *testing.T, size, first, count int) *disk.Disk {
	t.Helper()
	d := made(t, size)
	if e := vault.Format(d, first, count); e != api.OK {
		t.Fatalf("Format(%d, %d) = %d", first, count, e)
	}
	return d
}

// watch is a vault beside the plain one that it must be like.
type watch struct {
	t *testing.T
	d *disk.Disk
	v *vault.Vault
	p *plain
}

// begin opens the area on a disk, and the plain one on a copy of it.
func begin(t *testing.T, d *disk.Disk, first, count int) *watch {
	t.Helper()
	x := &watch{t, d, nil, &plain{d: d.Copy(), first: first, count: count}}
	x.open()
	return x
}

// fresh is the vault of the chapter's examples, just formatted.
func fresh(t *testing.T) *watch {
	t.Helper()
	return begin(t, formatted(t, 12, 0, 12), 0, 12)
}

// open opens both anew.
func (x *watch) open() {
	x.t.Helper()
	x.v = opened(x.t, x.d, x.p.first, x.p.count)
	p := find(x.p.d, x.p.first, x.p.count)
	if p == nil {
		x.t.Fatal("Open answers a vault where no head is good")
	}
	x.p = p
	x.look()
}

// look holds all that can be seen of the vault and of its disk against the plain ones.
func (x *watch) look() {
	x.t.Helper()
	if s, want := stateOf(x.t, x.v), (state{x.p.number, x.p.hand}); !s.same(want) {
		x.t.Fatalf("Number and values = %v, want %v", s, want)
	}
	if l := x.v.Keys(); !slices.Equal(l, x.p.keys()) {
		x.t.Fatalf("Keys = %q, want %q", l, x.p.keys())
	}
	if n, k := x.v.Free(), x.v.Need(); n != x.p.free() || k != x.p.need() {
		x.t.Fatalf("Free %d, Need %d; want %d, %d", n, k, x.p.free(), x.p.need())
	}
	if l := x.d.Pending(); !slices.Equal(l, x.p.d.Pending()) {
		x.t.Fatalf("Pending = %v, want %v", l, x.p.d.Pending())
	}
	if !bytes.Equal(x.d.Image(), x.p.d.Image()) || !bytes.Equal(x.d.Durable(), x.p.d.Durable()) {
		x.t.Fatalf("the disk reads as %v, want %v", x.d.Image(), x.p.d.Image())
	}
}

// same holds an answer against the plain vault's, and then all that can be seen.
func (x *watch) same(call string, e, want api.Errno) api.Errno {
	x.t.Helper()
	if e != want {
		x.t.Fatalf("%s = %d, want %d", call, e, want)
	}
	x.look()
	return e
}

func (x *watch) put(key string, value []byte) api.Errno {
	x.t.Helper()
	return x.same("Put", x.v.Put(key, value), x.p.put(key, value))
}

func (x *watch) delete(key string) api.Errno {
	x.t.Helper()
	return x.same("Delete", x.v.Delete(key), x.p.delete(key))
}

func (x *watch) get(key string) api.Errno {
	x.t.Helper()
	value, e := x.v.Get(key)
	want, f := x.p.get(key)
	if string(value) != want {
		x.t.Fatalf("Get(%q) = %q, want %q", key, value, want)
	}
	return x.same("Get", e, f)
}

func (x *watch) commit() api.Errno {
	x.t.Helper()
	return x.same("Commit", x.v.Commit(), x.p.commit())
}

func (x *watch) revert() api.Errno {
	x.t.Helper()
	return x.same("Revert", x.v.Revert(), x.p.revert())
}

func (x *watch) fuse(n int) {
	x.t.Helper()
	x.same("Fuse", x.d.Fuse(n), x.p.d.Fuse(n))
}

// crash lets both disks crash; the vaults are opened anew.
func (x *watch) crash(keep []bool, torn, cut int) {
	x.t.Helper()
	if e := x.d.Crash(keep, torn, cut); e != api.OK {
		x.t.Fatalf("Crash(%v, %d, %d) = %d", keep, torn, cut, e)
	}
	x.p.d.Crash(keep, torn, cut)
	x.open()
}

// puts and commits must be taken.
func (x *watch) puts(key string, value []byte) {
	x.t.Helper()
	if e := x.put(key, value); e != api.OK {
		x.t.Fatalf("Put(%q) = %d", key, e)
	}
}

func (x *watch) commits() {
	x.t.Helper()
	if e := x.commit(); e != api.OK {
		x.t.Fatalf("Commit = %d", e)
	}
}

// wants fails the test unless the vault tells just these.
func (x *watch) wants(number, free, need int, keys ...string) {
	x.t.Helper()
	v := x.v
	if v.Number() != number || v.Free() != free || v.Need() != need || !slices.Equal(v.Keys(), keys) {
		x.t.Fatalf("Number %d, Free %d, Need %d, Keys %q; want %d, %d, %d, %q", v.Number(), v.Free(), v.Need(), v.Keys(), number, free, need, keys)
	}
}

// some is a value of n bytes, another for each seed.
func some(seed, n int) []byte {
	b := make([]byte, n)
	rand.New(rand.NewSource(int64(seed))).Read(b)
	return b
}

// keeping is what a number's bits say of n writes.
func keeping(n, bits int) []bool {
	keep := make([]bool, n)
	for i := range keep {
		keep[i] = bits>>i&1 == 1
	}
	return keep
}

// flips keeps some of a disk's unsynced writes.
func flips(r *rand.Rand, d *disk.Disk) []bool {
	keep := make([]bool, len(d.Pending()))
	for i := range keep {
		keep[i] = r.Intn(3) > 0
	}
	return keep
}
