package book_test

import (
	"math/rand"
	"slices"
	"testing"

	"torrent/api"
	"torrent/create"
	"torrent/proof"
	"torrent/tree"
)

// torrent is files with some layers missing, at a scale: what the talks of these tests are about.
type torrent struct {
	sc     api.Scale
	m      api.Meta
	files  [][]byte
	pieces [][]byte
}

// some is a torrent of a few files, large and small ones, twins among them, some with their layers.
func some(r *rand.Rand, sc api.Scale, layers bool) torrent {
	pieceLen := sc.Block << r.Intn(3)
	x := torrent{sc: sc}
	var told []int
	for i := range 1 + r.Intn(5) {
		data := content(r, r.Intn(22*pieceLen))
		switch {
		case r.Intn(4) == 0:
			data = data[:min(len(data), r.Intn(2*pieceLen))]
		case i > 0 && r.Intn(3) == 0:
			data = x.files[r.Intn(i)]
		}
		x.files = append(x.files, data)
		if layers && len(data) > pieceLen && r.Intn(4) == 0 {
			told = append(told, i)
		}
		for at := 0; at < len(data); at += pieceLen {
			x.pieces = append(x.pieces, data[at:min(len(data), at+pieceLen)])
		}
	}
	x.m = with(sc, bare(sc, pieceLen, x.files...), x.files, told...)
	return x
}

// file is a file with a root.
func (x torrent) file(root api.Hash) []byte {
	for i, f := range x.m.Files {
		if f.Root == root {
			return x.files[i]
		}
	}
	return nil
}

// answer is the true answer to a query.
func (x torrent) answer(q api.Query) []api.Hash {
	return truth(x.sc, x.m.PieceLen, x.file(q.Root), q)
}

// lie is some answer to a query, most often a false one.
func (x torrent) lie(r *rand.Rand, q api.Query) []api.Hash {
	l := x.answer(q)
	switch r.Intn(6) {
	case 0:
		return l[:r.Intn(len(l))]
	case 1:
		return append(l, l[0])
	case 2:
		i, j := r.Intn(len(l)), r.Intn(len(l))
		l[i], l[j] = l[j], l[i]
		return l
	}
	return turned(l, r.Intn(len(l)), r.Intn(8*x.sc.Width))
}

// P15.9: whatever peers answer, at the full width only the truth becomes known: the hashes of the pieces' bytes, which lead to the roots.
func TestOnlyTheTruth(t *testing.T) {
	r := rand.New(rand.NewSource(11))
	for range 30 {
		x := some(r, own, true)
		w := begin(t, own, x.m)
		list, e := create.List(own, x.m)
		wants(t, "create.List", e, api.OK)
		var told []int
		for range 60 {
			peer := r.Intn(4)
			if q, ok := w.next(peer, 0); ok {
				hashes := x.answer(q)
				if r.Intn(3) > 0 {
					hashes = x.lie(r, q)
				}
				l, _ := w.accept(peer, q, hashes)
				told = append(told, l...)
			}
			if r.Intn(4) == 0 {
				w.drop(peer)
			}
		}
		for i, p := range list {
			h, ok, e := w.b.Known(i)
			if right, _ := tree.PieceRoot(own, x.pieces[i], p.Leaves); e != api.OK || ok && h != right {
				t.Fatalf("Known(%d) = %v, %v, %d", i, h, ok, e)
			}
			if ok != (p.Known || slices.Contains(told, i)) {
				t.Fatalf("Known(%d): %v, though it was told %v", i, ok, p.Known)
			}
		}
		slices.Sort(told)
		if len(slices.Compact(told)) != len(told) {
			t.Fatal("a piece became known twice")
		}
	}
}

// P15.9: at a small width a lie may lead to the root: then it shows two unlike texts with one digest, and what is known stays as it is all the same.
func TestLiesThatLead(t *testing.T) {
	r := rand.New(rand.NewSource(12))
	shown := 0
	for shown < 12 {
		sc := api.Scale{Block: 64, Width: 1}
		data := content(r, 64*(9+r.Intn(8)))
		x := torrent{sc: sc, files: [][]byte{data}}
		x.m = bare(sc, 64, data)
		w := begin(t, sc, x.m)
		nodes := layer(sc, 64, data)
		q := w.asks(0, 0, 0)
		lie := x.answer(q)
		for !leads(sc, q, lie) || slices.Equal(lie[:8], nodes[:8]) {
			lie = turned(x.answer(q), r.Intn(8), r.Intn(256))
			lie = turned(lie, r.Intn(8), r.Intn(256))
		}
		l, e := w.accept(0, q, lie)
		if len(l) != 8 || e != api.OK {
			t.Fatalf("Accept = %v, %d", l, e)
		}
		for i := range 8 {
			if h, ok, _ := w.b.Known(i); h != lie[i] || !ok {
				t.Fatalf("Known(%d) = %v, %v", i, h, ok)
			}
		}
		a, b, e := proof.Betray(sc, 0, nodes, q, lie)
		if e != api.OK || slices.Equal(a, b) || hash(sc, a) != hash(sc, b) {
			t.Fatalf("Betray = %v, %v, %d", a, b, e)
		}
		shown++
	}
}

// P15.5, P15.9: a second answer that leads to the root too, taken when the first was there already, changes nothing.
func TestKnownStays(t *testing.T) {
	r := rand.New(rand.NewSource(13))
	sc := api.Scale{Block: 64, Width: 1}
	for range 20 {
		data := content(r, 64*8)
		x := torrent{sc: sc, files: [][]byte{data, data}}
		x.m = bare(sc, 64, data, data)
		w := begin(t, sc, x.m)
		q := w.asks(0, 0, 0)
		w.asks(1, 0, 0)
		w.asks(2, 0, 0)
		lie := x.answer(q)
		for !leads(sc, q, lie) || slices.Equal(lie, x.answer(q)) {
			lie = turned(x.answer(q), r.Intn(8), r.Intn(256))
		}
		first, second := lie, x.answer(q)
		if r.Intn(2) == 0 {
			first, second = second, first
		}
		l, e := w.accept(1, q, first)
		if len(l) != 16 || e != api.OK {
			t.Fatalf("Accept = %v, %d", l, e)
		}
		for _, peer := range []int{0, 2} {
			if l, e = w.accept(peer, q, second); len(l) != 0 || e != api.OK {
				t.Fatalf("Accept = %v, %d", l, e)
			}
		}
		for i := range 16 {
			if h, _, _ := w.b.Known(i); h != first[i%8] {
				t.Fatalf("Known(%d) has changed", i)
			}
		}
	}
}

// P15.10: whatever others do, a peer that answers truly gets a query whenever a chunk is open and nothing is out at it, and nothing is missing when as many of its answers were taken as there are chunks.
func TestItEnds(t *testing.T) {
	r := rand.New(rand.NewSource(14))
	const honest = 5
	for range 60 {
		x := some(r, own, r.Intn(2) == 0)
		w := begin(t, own, x.m)
		taken := 0
		for now := 0; w.b.Missing() > 0; now++ {
			for range r.Intn(4) {
				others(r, x, w, r.Intn(5), now)
			}
			w.expire(now)
			q, ok := w.out(honest)
			if !ok {
				if q, ok = w.next(honest, now); !ok && w.b.Missing() > 0 {
					t.Fatal("a chunk is open, and the honest peer is not asked")
				}
			}
			if ok && r.Intn(5) > 0 {
				_, e := w.accept(honest, q, x.answer(q))
				wants(t, "Accept of the truth", e, api.OK)
				taken++
			}
			if taken >= len(w.p.parts) && w.b.Missing() > 0 {
				t.Fatalf("%d answers of the truth were taken, and %d hashes are missing", taken, w.b.Missing())
			}
		}
	}
}

// others lets a peer that is not honest do something.
func others(r *rand.Rand, x torrent, w *watch, peer, now int) {
	q, ok := w.out(peer)
	switch r.Intn(6) {
	case 0:
		w.drop(peer)
	case 1:
		w.reject(peer, q)
	case 2:
		if ok {
			w.accept(peer, q, x.lie(r, q))
		}
	case 3:
		if ok && r.Intn(4) == 0 {
			w.accept(peer, q, x.answer(q))
		}
	default:
		w.next(peer, now)
	}
}

// P15.1 to P15.8: rows of calls of all kinds, at several scales, against the book of the chapter's words.
func TestRows(t *testing.T) {
	r := rand.New(rand.NewSource(15))
	for range 150 {
		sc := api.Scale{Block: 64 << r.Intn(2), Width: []int{1, 2, 20, 32}[r.Intn(4)]}
		x := some(r, sc, true)
		w := begin(t, sc, x.m)
		now := 0
		for range 150 {
			now = max(0, now+r.Intn(5)-1)
			peer := r.Intn(7) - r.Intn(2)
			q, ok := w.out(peer)
			if len(w.p.parts) > 0 && r.Intn(8) == 0 {
				q = w.p.parts[r.Intn(len(w.p.parts))].query
			}
			switch r.Intn(9) {
			case 0:
				w.drop(peer)
			case 1:
				w.reject(peer, q)
			case 2:
				w.expire(now - r.Intn(3))
			case 3:
				if ok {
					w.accept(peer, q, x.lie(r, q))
				}
			case 4:
				if ok {
					w.accept(peer, q, x.answer(q))
				}
			case 5:
				w.accept(peer, q, nil)
			default:
				w.next(peer, now)
			}
		}
	}
}
