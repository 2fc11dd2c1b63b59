package audit_test

import (
	"bytes"
	"math"
	"math/rand"
	"reflect"
	"slices"
	"testing"

	"torrent/api"
	"torrent/audit"
	"torrent/store"
)

// roomy is a copy with spare room that can be seen again.
func roomy[T any](l []T, spare T) []T {
	return append(slices.Clip(slices.Clone(l)), slices.Repeat([]T{spare}, 10)...)[:len(l)]
}

// deface writes over a list and its spare room.
func deface[T any](l []T, x T) {
	l = l[:cap(l)]
	for i := range l {
		l[i] = x
	}
}

// roomySources are files all lists of which have spare room.
func roomySources(l []api.Source) []api.Source {
	l = roomy(l, file([]byte{9}, "spare"))
	for i := range l {
		l[i] = api.Source{Path: roomy(l[i].Path, "spare"), Data: roomy(l[i].Data, 77)}
	}
	return l
}

// roomyMeta is a metainfo all lists of which have spare room.
func roomyMeta(m api.Meta) api.Meta {
	m.Files = roomy(m.Files, api.File{Len: 5})
	for i := range m.Files {
		m.Files[i].Path = roomy(m.Files[i].Path, "spare")
	}
	m.Layers = roomy(m.Layers, api.Layer{})
	for i := range m.Layers {
		m.Layers[i].Hashes = roomy(m.Layers[i].Hashes, api.Hash{7})
	}
	return m
}

// all are a metainfo and files, spare room and all, as copies that can be compared later.
func all(m api.Meta, l []api.Source) []any {
	l = slices.Clone(l[:cap(l)])
	for i := range l {
		l[i] = api.Source{Path: slices.Clone(l[i].Path[:cap(l[i].Path)]), Data: slices.Clone(l[i].Data[:cap(l[i].Data)])}
	}
	m.Files = slices.Clone(m.Files[:cap(m.Files)])
	for i := range m.Files {
		m.Files[i].Path = slices.Clone(m.Files[i].Path[:cap(m.Files[i].Path)])
	}
	m.Layers = slices.Clone(m.Layers[:cap(m.Layers)])
	for i := range m.Layers {
		m.Layers[i].Hashes = slices.Clone(m.Layers[i].Hashes[:cap(m.Layers[i].Hashes)])
	}
	return []any{m, l}
}

// spoil writes over all of a metainfo and of files, their spare room too.
func spoil(m api.Meta, l []api.Source) {
	for _, f := range l[:cap(l)] {
		deface(f.Path, "spoilt")
		deface(f.Data, 5)
	}
	deface(l, file([]byte{1, 2}, "spoilt"))
	for _, f := range m.Files[:cap(m.Files)] {
		deface(f.Path, "spoilt")
	}
	deface(m.Files, api.File{})
	for _, x := range m.Layers[:cap(m.Layers)] {
		deface(x.Hashes, api.Hash{9})
	}
	deface(m.Layers, api.Layer{})
}

// P25.9: what is handed in is not changed, its spare room neither, and not kept.
func TestArgumentsStay(t *testing.T) {
	plain, pool := three(t), append(firstPool(), file(changed(a, 130), "c"), file(c, "b"))
	m, l := roomyMeta(plain), roomySources(pool)
	before := all(m, l)
	s := empty(t, own, plain)
	found, e1 := audit.Check(own, m, l)
	extra, e2 := audit.Extra(m, l)
	match, e3 := audit.Match(own, m, l)
	n, e4 := audit.Import(own, m, s, l)
	out, e5 := audit.Export(m, s)
	if e1 != 0 || e2 != 0 || e3 != 0 || e4 != 0 || e5 != 0 || n != 4 {
		t.Fatal("errors:", e1, e2, e3, e4, e5, n)
	}
	if !reflect.DeepEqual(all(m, l), before) {
		t.Error("P25.9: what was handed in is changed")
	}
	spoil(m, l)
	again, _ := audit.Check(own, plain, pool)
	more, _ := audit.Extra(plain, pool)
	places, _ := audit.Match(own, plain, pool)
	if !slices.Equal(found, again) || !slices.Equal(extra, more) || !slices.Equal(match, places) {
		t.Error("P25.9: an answer changes with what was handed in")
	}
	want := []api.Source{file(a, "a"), file(nil, "b"), file(c, "c")}
	if !same(out, want) {
		t.Errorf("P25.9: what came out changes with what was handed in: %v", out)
	}
	if now, e := audit.Export(plain, s); !same(now, want) || e != api.OK {
		t.Errorf("P25.9: the store changes with what was handed in: %v, %d", now, e)
	}
}

// P25.9: an answer is new memory, spare room too: also of two files with the same bytes.
func TestAnswersAreNew(t *testing.T) {
	given := []api.Source{file(a, "a", "x"), file(a, "a", "y"), file(c, "c")}
	m := built(t, own, 128, given...)
	s := empty(t, own, m)
	audit.Import(own, m, s, given)
	first, _ := audit.Export(m, s)
	second, _ := audit.Export(m, s)
	for i := range first {
		deface(first[i].Path, "spoilt")
		deface(first[i].Data, 5)
		for k := range first {
			if k > i && !same(first[k:k+1], given[k:k+1]) {
				t.Errorf("P0.5: what is written into file %d is seen in %d", i, k)
			}
		}
	}
	deface(first, api.Source{})
	third, e := audit.Export(m, s)
	if !same(second, given) || !same(third, given) || e != api.OK || !slices.Equal(m.Files[0].Path, []string{"a", "x"}) {
		t.Error("P25.9: what is written into an answer is seen elsewhere")
	}
	l, _ := audit.Check(own, m, given)
	k, _ := audit.Check(own, m, given)
	deface(l, api.Finding{})
	x, _ := audit.Match(own, m, given)
	y, _ := audit.Match(own, m, given)
	deface(x, 9)
	v, _ := audit.Extra(api.Meta{}, given)
	w, _ := audit.Extra(api.Meta{}, given)
	deface(v, 9)
	if len(k) != 7 || k[6].State != api.FoundRight || !slices.Equal(y, []int{0, 0, 2}) || !slices.Equal(w, []int{0, 1, 2}) {
		t.Errorf("P25.9: an answer is seen in another: %v, %v, %v", k, y, w)
	}
}

// P0.6: a store that Open has not made.
func TestStoreThatIsNone(t *testing.T) {
	m := three(t)
	if n, e := audit.Import(own, m, &store.Store{}, firstPool()); n != 0 || e != api.OK {
		t.Errorf("P25.4: Import into an unmade store = %d, %d", n, e)
	}
	if l, e := audit.Export(m, &store.Store{}); !same(l, []api.Source{file(nil, "b")}) || e != api.OK {
		t.Errorf("P25.5: Export of an unmade store = %v, %d", l, e)
	}
}

// P0.1: whatever the arguments, each call ends, and tells what the plain one tells.
func TestWildArguments(t *testing.T) {
	r := rand.New(rand.NewSource(3))
	ints := []int{0, 1, -1, 63, 64, 65, 128, 300, 1 << 24, 1 << 25, 1 << 40, 1<<40 + 1, math.MaxInt, math.MinInt, math.MaxInt - 63, math.MinInt + 64, 1 << 62}
	one := func() int { return ints[r.Intn(len(ints))] }
	for range 3000 {
		m := three(t)
		sc := own
		for range 1 + r.Intn(3) {
			switch k := r.Intn(len(m.Files)); r.Intn(7) {
			case 0:
				m.PieceLen = one()
			case 1:
				m.Files[k].Len = one()
			case 2:
				m.Files[k].Path = [][]string{nil, {""}, {"a"}, make([]string, 17), {"a", "b"}}[r.Intn(5)]
			case 3:
				m.Files[k].Root[r.Intn(32)] ^= 1
			case 4:
				m.Layers = [][]api.Layer{nil, {{}}, {{Root: m.Files[k].Root}}}[r.Intn(3)]
			case 5:
				sc = api.Scale{Block: one(), Width: r.Intn(40) - 3}
			case 6:
				m.Files = append(m.Files, api.File{Path: []string{"d"}, Len: one()})
			}
		}
		pool := []api.Source{file(a, "a"), file(c), file(nil, "d"), file(c, "c", "")}[:r.Intn(5)]
		s, z := empty(t, own, three(t)), empty(t, own, three(t))
		var w seen
		n, e := audit.Import(sc, m, s, pool)
		if want, f := plainImport(sc, m, z, pool, &w); n != want || e != f || !bytes.Equal(s.Have(), z.Have()) {
			t.Errorf("P0.1: Import = %d, %d, want %d, %d", n, e, want, f)
		}
		e1, e2 := wildExport(m, s), wildExport(m, nil)
		if e1 == api.OK && e2 != api.ErrNil || e1 != api.OK && e2 != e1 {
			t.Errorf("P0.1: Export tells %d, and of no store %d", e1, e2)
		}
		found, e := audit.Check(sc, m, pool)
		if want, f := plainCheck(sc, m, pool); !slices.Equal(found, want) || e != f {
			t.Errorf("P0.1: Check = %v, %d, want %v, %d", found, e, want, f)
		}
		match, e := audit.Match(sc, m, pool)
		if want, f := plainMatch(sc, m, pool); !slices.Equal(match, want) || e != f {
			t.Errorf("P0.1: Match = %v, %d, want %v, %d", match, e, want, f)
		}
		extra, e := audit.Extra(m, pool)
		if want, f := plainExtra(m, pool); !slices.Equal(extra, want) || e != f {
			t.Errorf("P0.1: Extra = %v, %d, want %v, %d", extra, e, want, f)
		}
	}
}

func wildExport(m api.Meta, s *store.Store) api.Errno {
	_, e := audit.Export(m, s)
	return e
}
