package create_test

import (
	"math"
	"math/rand"
	"testing"

	"torrent/api"
	"torrent/create"
)

// odd are numbers of all sorts.
func odd(r *rand.Rand) int {
	all := []int{0, 1, -1, 2, 3, 63, 64, 65, 96, 128, 256, 16384, 65536, 1 << 24, 1 << 25, api.MaxLen, api.MaxLen + 1, 1 << 62, math.MaxInt, math.MinInt, r.Int(), -r.Int()}
	return all[r.Intn(len(all))]
}

// oddMeta is a metainfo of anything.
func oddMeta(r *rand.Rand) api.Meta {
	m := api.Meta{Name: "x", PieceLen: odd(r)}
	if r.Intn(2) == 0 {
		m.PieceLen = 64 << r.Intn(3)
	}
	for range r.Intn(4) {
		f := api.File{Path: []string{"a", "b", ""}[:r.Intn(4)], Len: odd(r)}
		if r.Intn(2) == 0 {
			f.Len = r.Intn(200)
		}
		r.Read(f.Root[:])
		m.Files = append(m.Files, f)
	}
	for range r.Intn(3) {
		m.Layers = append(m.Layers, api.Layer{Hashes: make([]api.Hash, r.Intn(4))})
	}
	return m
}

// P0.1, P0.2: whatever comes in, a call ends, and beside an error all is zero.
func TestWildArguments(t *testing.T) {
	r := rand.New(rand.NewSource(1))
	for range 20000 {
		m, sc := oddMeta(r), api.Scale{Block: odd(r), Width: r.Intn(40) - 3}
		if r.Intn(2) == 0 {
			sc = own
		}
		i, j := odd(r), odd(r)
		n, e1 := create.Pieces(m)
		a, b, e2 := create.Row(m, i)
		w, e3 := create.Where(m, i)
		k, e4 := create.Blocks(sc, m, i)
		g, e5 := create.Block(sc, m, i, j)
		p, q, e6 := create.At(m, i, j)
		h, known, e7 := create.Want(sc, m, i)
		list, e8 := create.List(sc, m)
		cut, e9 := create.Slice(m, []api.Source{{Path: []string{"a"}}})
		glued, e10 := create.Glue(m, [][]byte{make([]byte, 64), make([]byte, r.Intn(64))})
		for call, zero := range []bool{
			e1 == 0 || n == 0, e2 == 0 || a == 0 && b == 0, e3 == 0 || w == api.Place{}, e4 == 0 || k == 0, e5 == 0 || g == api.Range{},
			e6 == 0 || p == 0 && q == 0, e7 == 0 && known || h == api.Hash{} && !known, e8 == 0 || len(list) == 0, e9 == 0 || len(cut) == 0, e10 == 0 || len(glued) == 0,
		} {
			if !zero {
				t.Fatalf("P0.2: call %d: something beside an error, of %v", call, m)
			}
		}
	}
	for range 2000 {
		var files []api.Source
		for range r.Intn(4) {
			files = append(files, api.Source{Path: []string{"a", "b", ""}[r.Intn(3):][:r.Intn(2)], Data: make([]byte, r.Intn(300))})
		}
		sc, name, pieceLen := api.Scale{Block: odd(r), Width: odd(r)}, []string{"", "n", "\xff", "."}[r.Intn(4)], odd(r)
		if r.Intn(2) == 0 {
			sc, name = own, "n"
		}
		m, e := create.Build(sc, name, pieceLen, files)
		b, f := create.Create(sc, name, pieceLen, files)
		if e != f || e != api.OK && (!same(m, api.Meta{}) || len(b) != 0) {
			t.Fatalf("P9.9, P0.2: Build %d, Create %d", e, f)
		}
	}
}
