package exchange_test

import (
	"bytes"
	"runtime"
	"slices"
	"testing"

	"torrent/api"
	"torrent/exchange"
)

// P23.12, P0.6: a nil fetch, and one that New has not made.
func TestNilFetch(t *testing.T) {
	for _, f := range []*exchange.Fetch{nil, {}} {
		walk(t, "P23.12, P0.6", f,
			step{size(0, 150), errno(api.ErrNil)},
			step{size(-1, 0), errno(api.ErrNil)},
			step{next(0, 0), errno(api.ErrNil)},
			step{next(-1, -1), errno(api.ErrNil)},
			step{take(0, 0, 150, make([]byte, 64)), errno(api.ErrNil)},
			step{take(-1, -1, -1, nil), errno(api.ErrNil)},
			step{refuse(0, 0), errno(api.ErrNil)},
			step{refuse(-1, 0), errno(api.ErrNil)},
			step{drop(0), errno(api.ErrNil)},
			step{drop(-1), errno(api.ErrNil)},
			step{expire(99), none},
			step{expire(-1), none},
			step{info(), none})
	}
}

// roomy is a copy with spare room that can be seen again.
func roomy(b []byte) []byte {
	return append(append(make([]byte, 0, len(b)+40), b...), bytes.Repeat([]byte{77}, 40)...)[:len(b)]
}

// deface writes over a list and its spare room.
func deface[T any](l []T, x T) {
	l = l[:cap(l)]
	for i := range l {
		l[i] = x
	}
}

// P23.12: a part is new memory, and the text that it is of stays as it was.
func TestPartIsNewMemory(t *testing.T) {
	text := roomy(some(150))
	before := slices.Clone(text[:cap(text)])
	for i, from := range []int{0, 64, 128} {
		want := slices.Clone(text[from:min(from+64, 150)])
		p, e := exchange.Part(own, text, i)
		again, _ := exchange.Part(own, text, i)
		if e != api.OK || !bytes.Equal(p, want) {
			t.Fatalf("P23.2: Part(%d) = %v, %d", i, p, e)
		}
		deface(p, 1)
		if !bytes.Equal(text[:cap(text)], before) || !bytes.Equal(again, want) {
			t.Fatalf("P23.12: what is written into part %d is seen elsewhere", i)
		}
		clear(text)
		if !bytes.Equal(again, want) {
			t.Fatalf("P23.12: part %d changes with the text", i)
		}
		copy(text, before)
	}
}

// P23.12: what Take is handed is not changed, its spare room neither, and not kept, whatever Take says.
func TestDataIsNotKept(t *testing.T) {
	text := some(150)
	f := fetch(t, own, sum(own, text))
	walk(t, "P23.4", f, step{size(1, 150), fine})
	for round, end := range []answer{errno(api.ErrPartLie), last} {
		given := slices.Clone(text)
		given[149] ^= byte(1 - round)
		for i := range 3 {
			walk(t, "P23.5", f, step{next(1, 0), named(i)})
			b := roomy(cut(64, given, i))
			before := slices.Clone(b[:cap(b)])
			want := fine
			if i == 2 {
				want = end
			}
			walk(t, "P23.6", f, step{take(1, i, 150, b), want})
			if !bytes.Equal(b[:cap(b)], before) {
				t.Fatalf("P23.12: Take changes the part %d that it is handed", i)
			}
			deface(b, 5)
		}
	}
	walk(t, "P23.12", f, step{info(), answer{yes: true, text: string(text)}})
}

// P23.12: an Info is new memory each time.
func TestInfoIsNewMemory(t *testing.T) {
	text := some(150)
	f := fetch(t, own, sum(own, text))
	walk(t, "P23.4", f, step{size(1, 150), fine})
	walk(t, "P23.6", f, whole(1, 0, 64, text, last)...)
	first, _ := f.Info()
	second, _ := f.Info()
	deface(first, 9)
	_ = append(first, 1, 2, 3)
	if third, there := f.Info(); !there || !bytes.Equal(second, text) || !bytes.Equal(third, text) {
		t.Error("P23.12: what is written into an Info is seen in another")
	}
}

// P0.5: what Expire answers is new memory.
func TestExpireIsNewMemory(t *testing.T) {
	f := fetch(t, own, api.Hash{})
	for peer := range 5 {
		walk(t, "P23.5", f, step{size(peer, 1), fine}, step{next(peer, 10*peer), named(0)})
	}
	first := f.Expire(20)
	second := f.Expire(40)
	deface(first, 99)
	if third := f.Expire(60); !slices.Equal(second, []int{2, 3}) || !slices.Equal(third, []int{4}) {
		t.Errorf("P0.5: %v, %v", second, third)
	}
}

// P0.3: two fetches have nothing to do with each other.
func TestFetchesApart(t *testing.T) {
	text := some(100)
	f, g := fetch(t, own, sum(own, text)), fetch(t, own, sum(own, text))
	walk(t, "P23.4", f, step{size(1, 100), fine}, step{next(1, 0), named(0)})
	walk(t, "P0.3", g, step{next(1, 0), none}, step{expire(99), none}, step{size(1, 64), fine}, step{next(1, 5), named(0)})
	walk(t, "P0.3", f, step{give(1, 64, text, 0), fine}, step{next(1, 0), named(1)}, step{give(1, 64, text, 1), last})
	walk(t, "P0.3", g, step{info(), none}, step{expire(13), answer{text: "[1]"}})
}

// taken is how many bytes of memory f took, in all and as it ended.
func taken(f func()) (int, int) {
	var before, after runtime.MemStats
	runtime.GC()
	runtime.ReadMemStats(&before)
	f()
	runtime.GC()
	runtime.ReadMemStats(&after)
	return int(after.TotalAlloc - before.TotalAlloc), int(after.HeapAlloc) - int(before.HeapAlloc)
}

// P0.1: many peers that say the greatest size, and give little or nothing, take little room.
func TestSizesTakeNoRoom(t *testing.T) {
	f, part := fetch(t, own, api.Hash{}), some(64)
	all, _ := taken(func() {
		for peer := range 1000 {
			f.Size(peer, api.MaxText)
			f.Next(peer, 0)
			f.Take(peer, 0, api.MaxText, part)
		}
	})
	if all > 10<<20 {
		t.Errorf("P0.1: a thousand peers that gave 64 bytes each took %d bytes", all)
	}
	walk(t, "P23.5", f, step{next(999, 0), named(1)})
}

// gives lets a peer say the text's size and give the parts from one on up to another.
func gives(f *exchange.Fetch, peer, from, to int, text []byte) {
	f.Size(peer, len(text))
	for i := from; i < to; i++ {
		f.Next(peer, 0)
		f.Take(peer, i, len(text), cut(16384, text, i))
	}
}

// P23.9: of what a peer gave nothing stays behind Drop, and no more than is needed behind a refusal, a lie and the end.
func TestNothingStays(t *testing.T) {
	sc := api.Scale{Block: 16384, Width: 32}
	text := some(100 << 10)
	f := fetch(t, sc, sum(sc, text))
	for k, c := range []struct {
		name string
		does func(peer int)
	}{
		{"dropped", func(peer int) {
			gives(f, peer, 0, 6, text)
			f.Drop(peer)
		}},
		{"with the last part refused", func(peer int) {
			gives(f, peer, 0, 6, text)
			f.Next(peer, 0)
			f.Refuse(peer, 6)
		}},
		{"with the first part refused", func(peer int) {
			f.Size(peer, len(text))
			f.Next(peer, 0)
			f.Refuse(peer, 0)
			gives(f, peer, 1, 7, text)
		}},
		{"that lied", func(peer int) { gives(f, peer, 0, 7, changed(text, 0)) }},
		{"when the text is there", func(peer int) {
			gives(f, peer, 0, 6, text)
			if peer%200 == 199 {
				gives(f, peer, 6, 7, text)
			}
		}},
	} {
		first := 200 * k
		_, stays := taken(func() {
			for i := range 200 {
				c.does(first + i)
			}
		})
		if stays > 4<<20 {
			t.Errorf("P23.6 to P23.9: of peers %s %d bytes stay", c.name, stays)
		}
	}
	walk(t, "P23.10", f, step{info(), answer{yes: true, text: string(text)}})
}
