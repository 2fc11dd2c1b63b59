package upload_test

import (
	"crypto/sha256"
	"math/rand"
	"slices"
	"strconv"
	"testing"

	"torrent/api"
	"torrent/disk"
	"torrent/store"
	"torrent/upload"
)

var own = api.Scale{Block: 64, Width: 32}

func hash(sc api.Scale, b []byte) api.Hash {
	h := api.Hash(sha256.Sum256(b))
	clear(h[sc.Width:])
	return h
}

func pair(sc api.Scale, l, r api.Hash) api.Hash { return hash(sc, slices.Concat(l[:], r[:])) }

// count is how many parts of a size n bytes have.
func count(n, size int) int { return (n + size - 1) / size }

// rise is the least h with 2^h at least n.
func rise(n int) int {
	h := 0
	for 1<<h < n {
		h++
	}
	return h
}

// grown is the tree over a row of nodes at the level low, whole: its layers from there on, with what stands above nothing.
func grown(sc api.Scale, low int, nodes []api.Hash) [][]api.Hash {
	var zero api.Hash
	for range low {
		zero = pair(sc, zero, zero)
	}
	l := slices.Clone(nodes)
	for len(l) < 1<<rise(len(nodes)) {
		l = append(l, zero)
	}
	all := [][]api.Hash{l}
	for len(l) > 1 {
		var up []api.Hash
		for i := 0; i < len(l); i += 2 {
			up = append(up, pair(sc, l[i], l[i+1]))
		}
		l = up
		all = append(all, l)
	}
	return all
}

// top is the root over a row of nodes at the level low.
func top(sc api.Scale, low int, nodes []api.Hash) api.Hash {
	all := grown(sc, low, nodes)
	return all[len(all)-1][0]
}

// leaves are the hashes of the blocks.
func leaves(sc api.Scale, data []byte) []api.Hash {
	var l []api.Hash
	for b := range slices.Chunk(data, sc.Block) {
		l = append(l, hash(sc, b))
	}
	return l
}

// over is the hash of a piece's bytes under a tree of just so many leaves.
func over(sc api.Scale, data []byte, n int) api.Hash {
	l := leaves(sc, data)
	for len(l) < n {
		l = append(l, api.Hash{})
	}
	return top(sc, 0, l)
}

// layer is the hashes of a large file's pieces.
func layer(sc api.Scale, pieceLen int, data []byte) []api.Hash {
	var l []api.Hash
	for b := range slices.Chunk(data, pieceLen) {
		l = append(l, over(sc, b, pieceLen/sc.Block))
	}
	return l
}

func content(r *rand.Rand, n int) []byte {
	b := make([]byte, n)
	r.Read(b)
	return b
}

// bare is the metainfo of files with these contents, without layers.
func bare(sc api.Scale, pieceLen int, files ...[]byte) api.Meta {
	m := api.Meta{Name: "t", PieceLen: pieceLen}
	for i, data := range files {
		f := api.File{Path: []string{"f" + strconv.Itoa(1000+i)}, Len: len(data)}
		if len(data) > 0 {
			f.Root = top(sc, 0, leaves(sc, data))
		}
		m.Files = append(m.Files, f)
	}
	return m
}

// with is the metainfo with the layers of some of its files, which have these contents.
func with(sc api.Scale, m api.Meta, files [][]byte, at ...int) api.Meta {
	for _, i := range at {
		root := m.Files[i].Root
		if len(files[i]) > m.PieceLen && !slices.ContainsFunc(m.Layers, func(l api.Layer) bool { return l.Root == root }) {
			m.Layers = append(m.Layers, api.Layer{Root: root, Hashes: layer(sc, m.PieceLen, files[i])})
		}
	}
	slices.SortFunc(m.Layers, func(a, b api.Layer) int { return slices.Compare(a.Root[:], b.Root[:]) })
	return m
}

// shelf is a store of pieces whose hashes are all known, and the pieces' bytes.
type shelf struct {
	t  *testing.T
	sc api.Scale
	s  *store.Store
	b  [][]byte
}

// shelved is a store for the pieces of files, of which none is there.
func shelved(t *testing.T, sc api.Scale, pieceLen int, files ...[]byte) *shelf {
	t.Helper()
	x := &shelf{t: t, sc: sc}
	var ps []api.Piece
	for _, data := range files {
		n := pieceLen / sc.Block
		if len(data) <= pieceLen {
			n = 1 << rise(count(len(data), sc.Block))
		}
		for b := range slices.Chunk(data, pieceLen) {
			x.b = append(x.b, b)
			ps = append(ps, api.Piece{Len: len(b), Leaves: n, Known: true, Hash: over(sc, b, n)})
		}
	}
	need, e := store.Need(sc, ps)
	wants(t, "store.Need", e, api.OK)
	d, e := disk.New(need)
	wants(t, "disk.New", e, api.OK)
	x.s, e = store.Open(sc, d, api.Hash{7}, ps)
	wants(t, "store.Open", e, api.OK)
	return x
}

// has tells whether a piece is there, by the store's bits.
func (x *shelf) has(piece int) bool {
	b := x.s.Have()
	return piece < 8*len(b) && b[piece/8]>>(7-piece%8)&1 == 1
}

// fill puts pieces into the store.
func (x *shelf) fill(pieces ...int) {
	x.t.Helper()
	for _, i := range pieces {
		for at := 0; at < len(x.b[i]); at += x.sc.Block {
			wants(x.t, "store.Put", x.s.Put(i, at, x.b[i][at:min(len(x.b[i]), at+x.sc.Block)]), api.OK)
		}
		wants(x.t, "store.Finish", x.s.Finish(i), api.OK)
	}
}

// fillAll puts all pieces into the store that are not there.
func (x *shelf) fillAll() {
	x.t.Helper()
	for i := range x.b {
		if !x.has(i) {
			x.fill(i)
		}
	}
}

// made is an upload that New could make.
func made(t *testing.T, sc api.Scale, m api.Meta, s *store.Store) *upload.Upload {
	t.Helper()
	u, e := upload.New(sc, m, s)
	if u == nil || e != api.OK {
		t.Fatalf("New = %v, %d", u, e)
	}
	return u
}

func wants(t *testing.T, what string, e, want api.Errno) {
	t.Helper()
	if e != want {
		t.Fatalf("%s = %d, want %d", what, e, want)
	}
}

// sameMsg tells whether two messages are the same, in all fields.
func sameMsg(a, b api.Msg) bool {
	return a.Kind == b.Kind && a.Index == b.Index && a.Begin == b.Begin && a.Length == b.Length &&
		a.Root == b.Root && a.Base == b.Base && a.Proofs == b.Proofs &&
		slices.Equal(a.Data, b.Data) && slices.Equal(a.Hashes, b.Hashes)
}

func sameOuts(a, b []api.Out) bool {
	return slices.EqualFunc(a, b, func(x, y api.Out) bool { return x.Peer == y.Peer && sameMsg(x.Msg, y.Msg) })
}

// opens and chokes are the messages of a choosing.
func opens(peer int) api.Out { return api.Out{Peer: peer, Msg: api.Msg{Kind: api.MsgUnchoke}} }

func chokes(peer int) api.Out { return api.Out{Peer: peer, Msg: api.Msg{Kind: api.MsgChoke}} }

// gives is the message that gives bytes of a piece.
func gives(peer, piece, begin int, data []byte) api.Out {
	return api.Out{Peer: peer, Msg: api.Msg{Kind: api.MsgPiece, Index: piece, Begin: begin, Data: data}}
}
