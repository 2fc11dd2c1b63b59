package vault_test

import (
	"bytes"
	"maps"
	"math/rand"
	"slices"
	"testing"

	"torrent/api"
	"torrent/disk"
	"torrent/vault"
)

// lain is a key with its value, the places of its chain and what the directory tells of it.
type lain struct {
	key    string
	value  []byte
	places []int
	tells  []byte // start, length, sum
}

func lay(key string, value []byte, places ...int) lain {
	return lain{key, value, places, slices.Concat(four(startOf(places)), four(len(value)), sum8(value))}
}

// forged is an area laid by hand. Its sums are those of what is in it, faults and all.
type forged struct {
	number, again, slot int
	keys                []lain
	behind              []byte                    // what stands behind the directory's last entry
	places              []int                     // those of the directory
	directory           func([]byte) []byte       // changes what the head tells of it: start, length, sum
	head                func([]byte)              // changes the head's first 52 bytes
	sectors             func(at func(int) []byte) // changes the sectors, by place
}

// forge is three keys, in places in no order.
func forge(number int) forged {
	return forged{number: number, again: number, slot: number % 2, places: []int{7, 0}, keys: []lain{
		lay("a", some(1, 130), 9, 2, 4),
		lay("b", nil),
		lay("c", some(2, 60), 5),
		lay("c\x00", some(3, 5), 1),
	}}
}

// area is where the forged ones lie, on a disk with a sector ahead of them and three behind them.
const (
	areaFirst = 1
	areaCount = 12
)

// on lays the forged area on an image.
func (f forged) on(image []byte) {
	at := func(place int) []byte { return image[64*(areaFirst+2+place):][:64] }
	var dir []byte
	for _, l := range f.keys {
		dir = slices.Concat(dir, []byte{byte(len(l.key))}, []byte(l.key), l.tells)
		chainOn(at, l.value, l.places)
	}
	dir = append(dir, f.behind...)
	chainOn(at, dir, f.places)
	tells := slices.Concat(four(startOf(f.places)), four(len(dir)), sum8(dir))
	if f.directory != nil {
		tells = f.directory(tells)
	}
	b := headText(f.number, number(tells), number(tells[4:]), tells[8:])
	if f.head != nil {
		f.head(b[:52])
		copy(b[52:60], sum8(b[:52]))
	}
	copy(b[60:], four(f.again))
	copy(image[64*(areaFirst+f.slot):], b)
	if f.sectors != nil {
		f.sectors(at)
	}
}

// chainOn lays bytes into places, as far as there are any.
func chainOn(at func(int) []byte, data []byte, places []int) {
	for i, place := range places {
		part := data[min(60*i, len(data)):min(60*i+60, len(data))]
		copy(at(place), slices.Concat(four(startOf(places[i+1:])), part))
	}
}

func blank() []byte { return make([]byte, 64*(areaFirst+areaCount+3)) }

// disk is one with just the forged area.
func (f forged) disk(t *testing.T) *disk.Disk {
	t.Helper()
	image := blank()
	f.on(image)
	return loaded(t, image)
}

// faults are those of heads, of directories and of chains, whose sums are right all the same.
func faults() map[string]func(f *forged) {
	told := func(i int, b []byte) func(f *forged) {
		return func(f *forged) { f.keys[i].tells = b }
	}
	next := func(place, number int) func(f *forged) {
		return func(f *forged) {
			f.sectors = func(at func(int) []byte) { copy(at(place), four(number)) }
		}
	}
	directory := func(start, size int, sum []byte) func(f *forged) {
		return func(f *forged) {
			f.directory = func([]byte) []byte { return slices.Concat(four(start), four(size), sum) }
		}
	}
	atHead := func(at int, x byte) func(f *forged) {
		return func(f *forged) { f.head = func(b []byte) { b[at] = x } }
	}
	a, c := some(1, 130), some(2, 60)
	return map[string]func(f *forged){
		"another first byte":       atHead(0, 85),
		"the first byte 0":         atHead(0, 0),
		"a byte behind the sum":    atHead(21, 1),
		"a byte ahead of the sum":  atHead(51, 128),
		"another number at first":  atHead(4, 77),
		"another number behind":    func(f *forged) { f.again += 2 },
		"the number 0":             func(f *forged) { f.number, f.again, f.slot = 0, 0, 0 },
		"the other sector":         func(f *forged) { f.slot = 1 - f.slot },
		"an odd number at 0":       func(f *forged) { f.number, f.again, f.slot = f.number|1, f.number|1, 0 },
		"no start":                 func(f *forged) { f.directory = func(b []byte) []byte { return append(four(0), b[4:]...) } },
		"another start":            func(f *forged) { f.directory = func(b []byte) []byte { return append(four(1), b[4:]...) } },
		"a start behind the end":   func(f *forged) { f.directory = func(b []byte) []byte { return append(four(11), b[4:]...) } },
		"the greatest start":       func(f *forged) { f.directory = func(b []byte) []byte { return append(four(1<<32-1), b[4:]...) } },
		"a shorter directory":      func(f *forged) { f.directory = func(b []byte) []byte { b[7]--; return b } },
		"a longer directory":       func(f *forged) { f.directory = func(b []byte) []byte { b[7]++; return b } },
		"a huge directory":         func(f *forged) { f.directory = func(b []byte) []byte { b[4] = 255; return b } },
		"another sum of it":        func(f *forged) { f.directory = func(b []byte) []byte { b[15] ^= 1; return b } },
		"no directory, a start":    directory(8, 0, sum8("")),
		"no directory, no sum":     directory(0, 0, make([]byte, 8)),
		"nothing but a length":     directory(0, 1, sum8("")),
		"a directory from within":  directory(1, 22, sum8(a[:22])),
		"zeros behind the entries": func(f *forged) { f.behind = []byte{0} },
		"half an entry behind":     func(f *forged) { f.behind = append([]byte{2, 'd'}, make([]byte, 16)...) },
		"a key's length behind":    func(f *forged) { f.behind = []byte{1} },
		"an entry but a byte":      func(f *forged) { f.behind = append([]byte{1, 'd'}, append(make([]byte, 8), sum8("")[:7]...)...) },
		"an empty key":             func(f *forged) { f.keys = slices.Insert(f.keys, 0, lay("", nil)) },
		"an empty key alone":       func(f *forged) { f.keys, f.places = []lain{lay("", nil)}, []int{0} },
		"a key twice":              func(f *forged) { f.keys = slices.Insert(f.keys, 2, lay("b", nil)) },
		"a key that falls":         func(f *forged) { f.keys[0], f.keys[1] = f.keys[1], f.keys[0] },
		"a key ahead of its begin": func(f *forged) { f.keys[2], f.keys[3] = f.keys[3], f.keys[2] },
		"a value's start 0":        told(0, slices.Concat(four(0), four(130), sum8(a))),
		"another start of a value": told(0, slices.Concat(four(3), four(130), sum8(a))),
		"a start past the places":  told(0, slices.Concat(four(11), four(130), sum8(a))),
		"a start past the disk":    told(0, slices.Concat(four(99), four(130), sum8(a))),
		"a start past all":         told(0, slices.Concat(four(1<<32-1), four(130), sum8(a))),
		"no value, a start":        told(1, slices.Concat(four(4), four(0), sum8(""))),
		"no value, no sum":         told(1, make([]byte, 16)),
		"a value of no place":      told(1, slices.Concat(four(0), four(5), sum8(some(3, 5)))),
		"a shorter value":          told(0, slices.Concat(four(10), four(120), sum8(a[:120]))),
		"a value of a place more":  told(2, slices.Concat(four(6), four(61), sum8(append(slices.Clone(c), 0)))),
		"a huge value":             told(0, slices.Concat(four(10), four(1<<32-1), sum8(a))),
		"another sum of a value":   told(2, slices.Concat(four(6), four(60), sum8(a))),
		"a value in a chain":       told(1, slices.Concat(four(5), four(10), sum8(a[120:]))),
		"two values in a place":    func(f *forged) { f.keys[3] = lay("c\x00", c[:7], 5) },
		"a value in the directory": func(f *forged) {
			f.keys = append(f.keys, lain{"d", nil, nil, slices.Concat(four(1), four(0), sum8(""))})
		},
		"a chain that goes on":     next(4, 4),
		"a chain that goes on, 2":  next(5, 12),
		"a chain into the next":    next(5, 6+1),
		"a chain back to itself":   next(9, 10),
		"a chain to its begin":     next(4, 10),
		"a chain into another":     next(2, 6),
		"a chain that ends early":  next(2, 0),
		"a chain past the places":  next(2, 11),
		"a chain past the disk":    next(2, 1<<32-1),
		"an end past the places":   next(4, 11),
		"an end past all":          next(4, 1<<32-1),
		"a directory into a value": next(7, 2),
		"a directory that goes on": next(0, 4),
		"a directory too short":    next(7, 0),
	}
}

// P26.2: a head is not good with any one fault, though all sums are right; the other head counts then, and if there is none, there is no vault.
func TestFaults(t *testing.T) {
	if x := begin(t, forge(6).disk(t), areaFirst, areaCount); x.v.Number() != 6 || x.v.Free() != 3 || len(x.v.Keys()) != 4 {
		t.Fatal("what is to be made faulty is not good")
	}
	for name, fault := range faults() {
		for _, n := range []int{2, 5, 6, 4294967294} {
			f := forge(n)
			fault(&f)
			d := f.disk(t)
			if find(d, areaFirst, areaCount) != nil {
				t.Fatalf("%s: the plain vault is there", name)
			}
			if v, e := vault.Open(d, areaFirst, areaCount); v != nil || e != api.ErrVaultBad {
				t.Errorf("%s: Open = %v, %d", name, v, e)
			}
			other := forged{number: n - 1, again: n - 1, slot: (n - 1) % 2, keys: []lain{lay("other", []byte("x"), 3)}, places: []int{8}}
			image := d.Image()
			other.on(image)
			if x := begin(t, loaded(t, image), areaFirst, areaCount); x.v.Number() != n-1 {
				t.Errorf("%s: beside a good head Number = %d", name, x.v.Number())
			}
		}
	}
}

// P26.2: a chain is not followed out of the area, whatever lies on the disk there.
func TestBeyondTheArea(t *testing.T) {
	f := forge(6)
	f.keys[0] = lay("a", some(1, 130), 9, 10, 4) // the place 10 is none: its sector lies behind the area
	if v, e := vault.Open(f.disk(t), areaFirst, areaCount); v != nil || e != api.ErrVaultBad {
		t.Errorf("Open = %v, %d", v, e)
	}
	begin(t, f.disk(t), areaFirst, areaCount+1).wants(6, 4, 0, "a", "b", "c", "c\x00")
}

// P26.2: what is good, though no commit would have laid it so.
func TestGoodHeads(t *testing.T) {
	for name, change := range map[string]func(f *forged){
		"as it is": func(f *forged) {},
		"bytes behind the ends": func(f *forged) {
			f.sectors = func(at func(int) []byte) {
				copy(at(4)[4+10:], bytes.Repeat([]byte{9}, 50))
				copy(at(1)[4+5:], bytes.Repeat([]byte{9}, 55))
				at(0)[63] = 1
			}
		},
		"foreign places": func(f *forged) {
			f.sectors = func(at func(int) []byte) {
				for _, place := range []int{3, 6, 8} {
					copy(at(place), bytes.Repeat([]byte{0, 0, 0, 1}, 16))
				}
			}
		},
		"the last place": func(f *forged) { f.keys[2] = lay("c", some(2, 60), 9); f.keys[0] = lay("a", some(1, 120), 2, 4) },
		"a long key": func(f *forged) {
			f.keys = append(f.keys, lay("c\x00"+string(some(4, 100)), nil))
			f.places = []int{7, 0, 3, 8}
		},
		"the number 1":        func(f *forged) { f.number, f.again, f.slot = 1, 1, 1 },
		"the last number":     func(f *forged) { f.number, f.again, f.slot = 4294967295, 4294967295, 1 },
		"a number of 31 bits": func(f *forged) { f.number, f.again, f.slot = 2147483648, 2147483648, 0 },
		"no key":              func(f *forged) { f.keys, f.places = nil, nil },
		"no bytes":            func(f *forged) { f.keys, f.places = []lain{lay("\xff", nil), lay("\xff\xff", nil)}, []int{3} },
		"a directory of 60":   func(f *forged) { f.keys = []lain{lay(string(some(5, 43)), some(6, 1), 4)}; f.places = []int{9} },
		"a directory of 61":   func(f *forged) { f.keys = []lain{lay(string(some(5, 44)), some(6, 1), 4)}; f.places = []int{9, 8} },
		"all places are used": func(f *forged) {
			f.keys = append(f.keys, lay("d", some(7, 61), 3, 6), lay("e", some(8, 1), 8))
			f.places = []int{0, 7}
		},
		"a value like another": func(f *forged) { f.keys[2] = lay("c", some(3, 5), 5) },
	} {
		f := forge(6)
		change(&f)
		d := f.disk(t)
		if find(d, areaFirst, areaCount) == nil {
			t.Fatalf("%s: the plain vault is not there", name)
		}
		x := begin(t, d, areaFirst, areaCount)
		if x.v.Number() != f.number || len(x.v.Keys()) != len(f.keys) {
			t.Errorf("%s: Number %d, Keys %q", name, x.v.Number(), x.v.Keys())
		}
		x.put("z", []byte("z"))
		x.commit()
		x.open()
	}
}

// P26.2: of two good heads the greater number counts, in either sector.
func TestGreaterNumber(t *testing.T) {
	for _, c := range []struct{ one, other, want int }{
		{1, 2, 2}, {3, 2, 3}, {254, 255, 255}, {256, 255, 256}, {4294967295, 2, 4294967295}, {7, 2147483648, 2147483648}, {2147483647, 2147483648, 2147483648},
		{1, 4294967294, 4294967294}, {65535, 16777216, 16777216},
	} {
		image := blank()
		a := forge(c.one)
		a.on(image)
		b := forged{number: c.other, again: c.other, slot: c.other % 2, keys: []lain{lay("other", []byte("x"), 3)}, places: []int{8}}
		b.on(image)
		if x := begin(t, loaded(t, image), areaFirst, areaCount); x.v.Number() != c.want {
			t.Errorf("of %d and %d Open takes %d", c.one, c.other, x.v.Number())
		}
	}
}

// P26.2: each bit of an area that two commits have made: the vault is the one that the chapter's words find.
func TestBits(t *testing.T) {
	x := fresh(t)
	x.puts("a", some(1, 61))
	x.puts("b", some(2, 3))
	x.commits()
	x.puts("b", nil)
	x.puts("c", some(3, 60))
	x.commits()
	image := x.d.Image()
	for bit := range 8 * len(image) {
		image[bit/8] ^= 1 << (bit % 8)
		foundAlike(t, image, 0, 12)
		image[bit/8] ^= 1 << (bit % 8)
	}
}

// foundAlike holds Open against the plain one's finding.
func foundAlike(t *testing.T, image []byte, first, count int) {
	t.Helper()
	d := loaded(t, image)
	if find(d, first, count) != nil {
		begin(t, d, first, count)
		return
	}
	if v, e := vault.Open(d, first, count); v != nil || e != api.ErrVaultBad {
		t.Fatalf("Open = %v, %d, where no head is good", v, e)
	}
}

// P26.2: areas forged at random, with a few faults or none.
func TestForgedAtRandom(t *testing.T) {
	r := rand.New(rand.NewSource(5))
	names := slices.Sorted(maps.Keys(faults()))
	good := 0
	for range 3000 {
		image := blank()
		for at := range image {
			image[at] = byte(r.Intn(4) * r.Intn(2))
		}
		for range 1 + r.Intn(2) {
			f := forgedAtRandom(r)
			if len(f.keys) == 4 && r.Intn(4) == 0 {
				faults()[names[r.Intn(len(names))]](&f)
			}
			f.on(image)
		}
		for range r.Intn(3) {
			image[r.Intn(len(image))] ^= 1 << r.Intn(8)
		}
		foundAlike(t, image, areaFirst, areaCount)
		if find(loaded(t, image), areaFirst, areaCount) != nil {
			good++
		}
	}
	if good < 300 || good > 2700 {
		t.Errorf("%d of 3000 are good", good)
	}
}

// forgedAtRandom is an area with keys and places at random; now and then the places are too few, or the same.
func forgedAtRandom(r *rand.Rand) forged {
	n := 1 + r.Intn(9)
	f := forged{number: n, again: n, slot: n % 2}
	places := r.Perm(areaCount - 2)
	if r.Intn(6) == 0 {
		places[r.Intn(len(places))] = places[r.Intn(len(places))]
	}
	take := func(n int) []int {
		n = min((n+59)/60, len(places))
		taken := places[:n]
		places = places[n:]
		return taken
	}
	size := 0
	for _, key := range []string{"a", "b", "c", "c\x00"}[:r.Intn(5)] {
		value := some(r.Int(), []int{0, 1, 59, 60, 61, 120, 121}[r.Intn(7)])
		f.keys = append(f.keys, lay(key, value, take(len(value))...))
		size += 17 + len(key)
	}
	f.places = take(size)
	return f
}
