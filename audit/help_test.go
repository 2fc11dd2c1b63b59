package audit_test

import (
	"bytes"
	"crypto/sha256"
	"math"
	"math/rand"
	"slices"
	"testing"

	"torrent/api"
	"torrent/create"
	"torrent/disk"
	"torrent/store"
)

var own = api.Scale{Block: 64, Width: 32}

// tiny has two texts of one digest at every turn.
var tiny = api.Scale{Block: 64, Width: 1}

var badScales = []api.Scale{{}, {Block: 64}, {Block: 64, Width: 33}, {Block: 64, Width: -1}, {Block: 32, Width: 32}, {Block: 96, Width: 32}, {Block: 63, Width: 1}, {Block: 32768, Width: 32}, {Block: -64, Width: 32}, {Block: 0, Width: 32}, {Block: math.MaxInt, Width: 32}, {Block: math.MinInt, Width: math.MinInt}}

// some is a text of n bytes without two like parts.
func some(seed, n int) []byte {
	b := make([]byte, n)
	rand.New(rand.NewSource(int64(seed))).Read(b)
	return b
}

// file is a source of any names.
func file(data []byte, path ...string) api.Source { return api.Source{Path: path, Data: data} }

// changed is a copy with one byte changed.
func changed(b []byte, at int) []byte {
	b = slices.Clone(b)
	b[at] ^= 1
	return b
}

// sum is the digest at a scale, by the library of Go.
func sum(sc api.Scale, b []byte) api.Hash {
	h := api.Hash(sha256.Sum256(b))
	clear(h[sc.Width:])
	return h
}

// top is the root over the digests of blocks, filled up with zeros to so many leaves, or, if that is 0, to as many as there must be.
func top(sc api.Scale, data []byte, leaves int) api.Hash {
	var row []api.Hash
	for b := range slices.Chunk(data, sc.Block) {
		row = append(row, sum(sc, b))
	}
	for len(row) < leaves || len(row)&(len(row)-1) != 0 {
		row = append(row, api.Hash{})
	}
	for len(row) > 1 {
		var up []api.Hash
		for p := range slices.Chunk(row, 2) {
			up = append(up, sum(sc, slices.Concat(p[0][:], p[1][:])))
		}
		row = up
	}
	return row[0]
}

// twin is another text of the same length and the same root, which is found at narrow scales alone; the text itself, if none is found.
func twin(r *rand.Rand, sc api.Scale, b []byte) []byte {
	root, c := top(sc, b, 0), slices.Clone(b)
	for range 10000 {
		c[r.Intn(len(c))] = byte(r.Int())
		if !bytes.Equal(b, c) && top(sc, c, 0) == root {
			return c
		}
	}
	return b
}

// a and c are the chapter's files that have bytes; b has none.
var a, c = some(1, 300), some(2, 64)

// three is the metainfo of the chapter's examples.
func three(t *testing.T) api.Meta {
	t.Helper()
	return built(t, own, 128, file(a, "a"), file(nil, "b"), file(c, "c"))
}

// bare is a metainfo without its layers.
func bare(m api.Meta) api.Meta {
	m.Layers = nil
	return m
}

func built(t *testing.T, sc api.Scale, pieceLen int, files ...api.Source) api.Meta {
	t.Helper()
	m, e := create.Build(sc, "t", pieceLen, files)
	if e != api.OK {
		t.Fatal("create.Build:", e)
	}
	return m
}

func listed(t *testing.T, sc api.Scale, m api.Meta) []api.Piece {
	t.Helper()
	l, e := create.List(sc, m)
	if e != api.OK {
		t.Fatal("create.List:", e)
	}
	return l
}

// room is an empty disk with just the room for these pieces.
func room(t *testing.T, sc api.Scale, list []api.Piece) *disk.Disk {
	t.Helper()
	n, e := store.Need(sc, list)
	if e != api.OK {
		t.Fatal("store.Need:", e)
	}
	d, e := disk.New(n)
	if e != api.OK {
		t.Fatal("disk.New:", e)
	}
	return d
}

func opened(t *testing.T, sc api.Scale, d *disk.Disk, list []api.Piece) *store.Store {
	t.Helper()
	s, e := store.Open(sc, d, api.Hash{1}, list)
	if e != api.OK {
		t.Fatal("store.Open:", e)
	}
	return s
}

// empty is a store of a metainfo's pieces that has none.
func empty(t *testing.T, sc api.Scale, m api.Meta) *store.Store {
	t.Helper()
	list := listed(t, sc, m)
	return opened(t, sc, room(t, sc, list), list)
}

// unknown is a list of pieces without their hashes.
func unknown(list []api.Piece) []api.Piece {
	list = slices.Clone(list)
	for i := range list {
		list[i].Known = false
	}
	return list
}

// has tells whether a store has a piece, by the bit in its Have.
func has(s *store.Store, piece int) bool {
	b := s.Have()
	return piece/8 < len(b) && b[piece/8]<<(piece%8) >= 128
}

// same tells whether two lists of files are the same.
func same(x, y []api.Source) bool {
	return slices.EqualFunc(x, y, func(a, b api.Source) bool {
		return slices.Equal(a.Path, b.Path) && bytes.Equal(a.Data, b.Data)
	})
}

// numbered are files with names of their own.
func numbered(n int, data []byte) []api.Source {
	l := make([]api.Source, n)
	for i := range l {
		l[i] = file(data, string([]byte{'a' + byte(i>>12), 'a' + byte(i>>8&15), 'a' + byte(i>>4&15), 'a' + byte(i&15)}))
	}
	return l
}
