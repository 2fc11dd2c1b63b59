package book_test

import (
	"math/rand"
	"testing"

	"torrent/api"
	"torrent/book"
	"torrent/meta"
)

// P15.1, P0.7, P0.8: no book is made of a metainfo that may not be; the error is that of meta.Check.
func TestNewRefuses(t *testing.T) {
	r := rand.New(rand.NewSource(2))
	files := [][]byte{content(r, 300), content(r, 64), nil}
	good := with(own, bare(own, 128, files...), files, 0)
	begin(t, own, good)
	for _, c := range []struct {
		sc    api.Scale
		spoil func(m *api.Meta)
		want  api.Errno
	}{
		{api.Scale{}, func(m *api.Meta) {}, api.ErrScale},
		{api.Scale{Block: 96, Width: 32}, func(m *api.Meta) { m.Name = "" }, api.ErrScale},
		{api.Scale{Block: 64, Width: 33}, func(m *api.Meta) { m.Files = nil }, api.ErrScale},
		{api.Scale{Block: 256, Width: 32}, func(m *api.Meta) {}, api.ErrMetaPiece},
		{own, func(m *api.Meta) { *m = api.Meta{} }, api.ErrMetaPiece},
		{own, func(m *api.Meta) { m.PieceLen = 96 }, api.ErrMetaPiece},
		{own, func(m *api.Meta) { m.PieceLen = -128 }, api.ErrMetaPiece},
		{own, func(m *api.Meta) { m.Name = "" }, api.ErrNameEmpty},
		{own, func(m *api.Meta) { m.Files = nil }, api.ErrMetaTree},
		{own, func(m *api.Meta) { m.Files[0].Path = nil }, api.ErrNameEmpty},
		{own, func(m *api.Meta) { m.Files[0].Len = -1 }, api.ErrMetaLength},
		{own, func(m *api.Meta) { m.Files[0].Len = 1 << 62 }, api.ErrMetaLength},
		{own, func(m *api.Meta) { m.Files[0].Len = 128 * 65537 }, api.ErrPathMany},
		{own, func(m *api.Meta) { m.Files[2].Root[0] = 1 }, api.ErrMetaRoot},
		{api.Scale{Block: 64, Width: 2}, func(m *api.Meta) {}, api.ErrMetaRoot},
		{own, func(m *api.Meta) { m.Files[0], m.Files[1] = m.Files[1], m.Files[0] }, api.ErrMetaOrder},
		{own, func(m *api.Meta) { m.Layers[0].Hashes = turned(m.Layers[0].Hashes, 2, 9) }, api.ErrMetaLayer},
		{own, func(m *api.Meta) { m.Files[0].Len = 400 }, api.ErrMetaLayer},
		{own, func(m *api.Meta) { m.Info = []api.Pair{{Key: "pieces"}} }, api.ErrMetaMore},
	} {
		m := with(own, bare(own, 128, files...), files, 0)
		c.spoil(&m)
		wants(t, "meta.Check", meta.Check(c.sc, m), c.want)
		if b, e := book.New(c.sc, m); b != nil || e != c.want {
			t.Errorf("New = %v, %d; want %d", b, e, c.want)
		}
	}
}

// P15.1, P15.2: what the metainfo tells is known from the beginning on: small files by their roots, large ones by their layers.
func TestKnownFromTheBeginning(t *testing.T) {
	r := rand.New(rand.NewSource(3))
	files := [][]byte{content(r, 128), nil, content(r, 129), content(r, 1), content(r, 1000), content(r, 65), nil}
	m := bare(own, 128, files...)
	for _, c := range []struct {
		layers  []int
		missing int
	}{{nil, 10}, {[]int{2}, 8}, {[]int{4}, 2}, {[]int{2, 4}, 0}} {
		x := begin(t, own, with(own, m, files, c.layers...))
		if n := x.b.Missing(); n != c.missing {
			t.Errorf("with the layers of %v: Missing = %d, want %d", c.layers, n, c.missing)
		}
		for _, at := range c.layers {
			from := map[int]int{2: 1, 4: 4}[at]
			for i, h := range layer(own, 128, files[at]) {
				if g, ok, e := x.b.Known(from + i); g != h || !ok || e != api.OK {
					t.Errorf("Known(%d) = %v, %v, %d; want %v", from+i, g, ok, e, h)
				}
			}
		}
		for i, at := range map[int]int{0: 0, 3: 3, 12: 5} {
			if h, ok, e := x.b.Known(i); h != m.Files[at].Root || !ok || e != api.OK {
				t.Errorf("Known(%d) = %v, %v, %d", i, h, ok, e)
			}
		}
	}
}

// P15.2, P15.3: a torrent of empty files has no piece, one of small files nothing to ask for.
func TestNothingToAsk(t *testing.T) {
	r := rand.New(rand.NewSource(4))
	large := [][]byte{content(r, 500)}
	for _, m := range []api.Meta{
		bare(own, 64, nil, nil),
		bare(own, 64, content(r, 64), nil, content(r, 1)),
		with(own, bare(own, 64, large...), large, 0),
	} {
		x := begin(t, own, m)
		x.asks(0, 0, -1)
		x.asks(0, 100, -1)
		wants(t, "Reject", x.reject(0, api.Query{}), api.ErrUnasked)
		_, e := x.accept(0, api.Query{}, nil)
		wants(t, "Accept", e, api.ErrUnasked)
		if late := x.expire(1000); len(late) != 0 {
			t.Errorf("Expire = %v", late)
		}
		wants(t, "Drop", x.drop(0), api.OK)
	}
}

// P15.1, P0.1: the greatest torrent: as many pieces and files as there may be.
func TestGreatest(t *testing.T) {
	m := api.Meta{Name: "t", PieceLen: 1024 * 64, Files: []api.File{{Path: []string{"a"}, Len: 65536 * 65536, Root: api.Hash{1}}}}
	b, e := book.New(own, m)
	if e != api.OK || b.Missing() != 65536 {
		t.Fatalf("New: %d", e)
	}
	for i := range 65536 / 8 {
		want := api.Query{Root: api.Hash{1}, Base: 10, Index: 8 * i, Length: 8, Proofs: 15}
		if q, ok, e := b.Next(i, 0); q != want || !ok || e != api.OK {
			t.Fatalf("Next(%d) = %v, %v, %d", i, q, ok, e)
		}
		if i%2 == 0 {
			wants(t, "Drop", b.Drop(i), api.OK)
			_, _, e := b.Next(i, 0)
			wants(t, "Next", e, api.OK)
		}
	}
	if late := b.Expire(8); len(late) != 65536/8 {
		t.Errorf("Expire tells %d", len(late))
	}
	many := make([][]byte, 4096)
	for i := range many {
		many[i] = make([]byte, 65+i%3)
	}
	b, e = book.New(own, bare(own, 64, many...))
	if e != api.OK || b.Missing() != 2*4096 {
		t.Fatalf("New: %d", e)
	}
	for i := range many {
		if q, ok, _ := b.Next(i, 0); !ok || q.Length != 2 || q.Index != 0 || q.Proofs != 0 {
			t.Fatalf("Next = %v, %v", q, ok)
		}
	}
}
