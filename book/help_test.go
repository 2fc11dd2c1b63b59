package book_test

import (
	"crypto/sha256"
	"math/rand"
	"slices"
	"strconv"
	"testing"

	"torrent/api"
	"torrent/book"
)

var own = api.Scale{Block: 64, Width: 32}

func hash(sc api.Scale, b []byte) api.Hash {
	h := api.Hash(sha256.Sum256(b))
	clear(h[sc.Width:])
	return h
}

func pair(sc api.Scale, l, r api.Hash) api.Hash { return hash(sc, slices.Concat(l[:], r[:])) }

// over is the hash of bytes under a tree of just so many leaves, by the chapter on trees.
func over(sc api.Scale, data []byte, leaves int) api.Hash {
	if leaves == 1 {
		if len(data) == 0 {
			return api.Hash{}
		}
		return hash(sc, data)
	}
	half := min(len(data), leaves/2*sc.Block)
	return pair(sc, over(sc, data[:half], leaves/2), over(sc, data[half:], leaves/2))
}

// row is a layer of the tree of a file, whole, with what stands above nothing: the hashes above so many leaves each.
func row(sc api.Scale, data []byte, leaves int) []api.Hash {
	n := 1
	for n*leaves*sc.Block < len(data) {
		n *= 2
	}
	l := make([]api.Hash, n)
	for i := range l {
		l[i] = over(sc, data[min(len(data), i*leaves*sc.Block):min(len(data), (i+1)*leaves*sc.Block)], leaves)
	}
	return l
}

// count is how many parts of a size n bytes have.
func count(n, size int) int { return (n + size - 1) / size }

// rise is the least h with 2^h at least n.
func rise(n int) int {
	h := 0
	for 1<<h < n {
		h++
	}
	return h
}

func content(r *rand.Rand, n int) []byte {
	b := make([]byte, n)
	r.Read(b)
	return b
}

// bare is the metainfo of files with these contents, without layers.
func bare(sc api.Scale, pieceLen int, files ...[]byte) api.Meta {
	m := api.Meta{Name: "t", PieceLen: pieceLen}
	for i, data := range files {
		f := api.File{Path: []string{"f" + strconv.Itoa(1000+i)}, Len: len(data)}
		if len(data) > 0 {
			f.Root = row(sc, data, 1<<rise(count(len(data), sc.Block)))[0]
		}
		m.Files = append(m.Files, f)
	}
	return m
}

// layer is a large file's piece layer.
func layer(sc api.Scale, pieceLen int, data []byte) []api.Hash {
	return row(sc, data, pieceLen/sc.Block)[:count(len(data), pieceLen)]
}

// with is the metainfo with the layers of some of its files, which have these contents.
func with(sc api.Scale, m api.Meta, files [][]byte, at ...int) api.Meta {
	for _, i := range at {
		root := m.Files[i].Root
		if !slices.ContainsFunc(m.Layers, func(l api.Layer) bool { return l.Root == root }) {
			m.Layers = append(m.Layers, api.Layer{Root: root, Hashes: layer(sc, m.PieceLen, files[i])})
		}
	}
	slices.SortFunc(m.Layers, func(a, b api.Layer) int { return slices.Compare(a.Root[:], b.Root[:]) })
	return m
}

// truth is the true answer to a query for a file's pieces, by the chapter on proofs.
func truth(sc api.Scale, pieceLen int, data []byte, q api.Query) []api.Hash {
	at, leaves := q.Index, pieceLen/sc.Block
	answer := slices.Clone(row(sc, data, leaves)[at : at+q.Length])
	for n := q.Length; n > 1; n /= 2 {
		at, leaves = at/2, leaves*2
	}
	for len(row(sc, data, leaves)) > 1 {
		answer = append(answer, row(sc, data, leaves)[at^1])
		at, leaves = at/2, leaves*2
	}
	return answer
}

// leads tells whether an answer to one of the book's queries has as many hashes as it must have, and they lead to the root.
func leads(sc api.Scale, q api.Query, hashes []api.Hash) bool {
	if len(hashes) != q.Length+q.Proofs+1-rise(q.Length) {
		return false
	}
	l := slices.Clone(hashes[:q.Length])
	for len(l) > 1 {
		for i := range len(l) / 2 {
			l[i] = pair(sc, l[2*i], l[2*i+1])
		}
		l = l[:len(l)/2]
	}
	for i, h := range hashes[q.Length:] {
		if q.Index/q.Length>>i%2 == 0 {
			l[0] = pair(sc, l[0], h)
		} else {
			l[0] = pair(sc, h, l[0])
		}
	}
	return l[0] == q.Root
}

// part is a chunk of the plain book.
type part struct {
	query         api.Query
	file, from, n int // its file, the file's first piece and how many it has
}

// pieces are the numbers of a chunk's pieces.
func (p part) pieces() []int {
	var l []int
	for i := p.query.Index; i < p.query.Index+p.query.Length && i < p.n; i++ {
		l = append(l, p.from+i)
	}
	return l
}

// plain is the book of the chapter's words.
type plain struct {
	sc     api.Scale
	known  map[int]api.Hash
	n      int // pieces
	parts  []part
	out    map[int][2]int  // peer: chunk, since
	barred map[[2]int]bool // peer, chunk
}

// newPlain is the plain book of a metainfo that may be.
func newPlain(sc api.Scale, m api.Meta) *plain {
	b := &plain{sc: sc, known: map[int]api.Hash{}, out: map[int][2]int{}, barred: map[[2]int]bool{}}
	for at, f := range m.Files {
		n := count(f.Len, m.PieceLen)
		if f.Len > 0 && f.Len <= m.PieceLen {
			b.known[b.n] = f.Root
		}
		for _, l := range m.Layers {
			for i, h := range l.Hashes {
				if f.Len > m.PieceLen && l.Root == f.Root {
					b.known[b.n+i] = h
				}
			}
		}
		if f.Len > m.PieceLen {
			length := min(8, 1<<rise(n))
			for index := 0; index < n; index += length {
				q := api.Query{Root: f.Root, Base: rise(m.PieceLen / sc.Block), Index: index, Length: length, Proofs: rise(n) - 1}
				b.parts = append(b.parts, part{q, at, b.n, n})
			}
		}
		b.n += n
	}
	return b
}

// open tells whether a chunk is open.
func (b *plain) open(i int) bool {
	return slices.ContainsFunc(b.parts[i].pieces(), func(p int) bool { _, ok := b.known[p]; return !ok })
}

// away tells whether a chunk is out at somebody.
func (b *plain) away(i int) bool {
	for _, o := range b.out {
		if o[0] == i {
			return true
		}
	}
	return false
}

func (b *plain) next(peer, now int) (api.Query, bool, api.Errno) {
	if peer < 0 || now < 0 {
		return api.Query{}, false, api.ErrArg
	}
	if _, ok := b.out[peer]; ok {
		return api.Query{}, false, api.OK
	}
	for _, shared := range []bool{false, true} {
		for i, p := range b.parts {
			if b.open(i) && (shared || !b.away(i)) && !b.barred[[2]int{peer, i}] {
				b.out[peer] = [2]int{i, now}
				return p.query, true, api.OK
			}
		}
	}
	return api.Query{}, false, api.OK
}

// back takes the chunk that is out at a peer from it.
func (b *plain) back(peer int, q api.Query) (int, api.Errno) {
	if peer < 0 {
		return 0, api.ErrArg
	}
	o, ok := b.out[peer]
	if !ok || b.parts[o[0]].query != q {
		return 0, api.ErrUnasked
	}
	delete(b.out, peer)
	return o[0], api.OK
}

func (b *plain) accept(peer int, q api.Query, hashes []api.Hash) ([]int, api.Errno) {
	i, e := b.back(peer, q)
	if e != api.OK {
		return nil, e
	}
	if !leads(b.sc, q, hashes) {
		b.barred[[2]int{peer, i}] = true
		return nil, api.ErrBad
	}
	var fresh []int
	for _, o := range b.parts {
		if p := b.parts[i]; o.query != p.query || o.n != p.n {
			continue
		}
		for k, piece := range o.pieces() {
			if _, ok := b.known[piece]; !ok {
				b.known[piece] = hashes[k]
				fresh = append(fresh, piece)
			}
		}
	}
	slices.Sort(fresh)
	return fresh, api.OK
}

func (b *plain) reject(peer int, q api.Query) api.Errno {
	i, e := b.back(peer, q)
	if e == api.OK {
		b.barred[[2]int{peer, i}] = true
	}
	return e
}

func (b *plain) expire(now int) []api.Late {
	var l []api.Late
	for peer, o := range b.out {
		if now >= 0 && now-o[1] >= 8 {
			l = append(l, api.Late{Peer: peer, Query: b.parts[o[0]].query})
			delete(b.out, peer)
		}
	}
	slices.SortFunc(l, func(x, y api.Late) int {
		if x.Peer < y.Peer {
			return -1
		}
		return 1
	})
	return l
}

func (b *plain) drop(peer int) api.Errno {
	if peer < 0 {
		return api.ErrArg
	}
	delete(b.out, peer)
	for i := range b.parts {
		delete(b.barred, [2]int{peer, i})
	}
	return api.OK
}

// watch holds a book against the plain one, call by call.
type watch struct {
	t *testing.T
	m api.Meta
	b *book.Book
	p *plain
}

// begin is a new book of a metainfo that may be, watched.
func begin(t *testing.T, sc api.Scale, m api.Meta) *watch {
	t.Helper()
	b, e := book.New(sc, m)
	if e != api.OK || b == nil {
		t.Fatalf("New = %v, %d", b, e)
	}
	x := &watch{t, m, b, newPlain(sc, m)}
	x.look()
	return x
}

// look holds what can be seen of the book without a change against the plain one.
func (x *watch) look() {
	x.t.Helper()
	missing := 0
	for i := range x.p.n {
		h, ok := x.p.known[i]
		if !ok {
			missing++
		}
		if g, known, e := x.b.Known(i); g != h || known != ok || e != api.OK {
			x.t.Fatalf("Known(%d) = %v, %v, %d; want %v, %v", i, g, known, e, h, ok)
		}
	}
	for _, i := range []int{-1 << 63, -1, x.p.n, 1<<63 - 1} {
		if h, known, e := x.b.Known(i); h != (api.Hash{}) || known || e != api.ErrPiece {
			x.t.Fatalf("Known(%d) = %v, %v, %d", i, h, known, e)
		}
	}
	if n := x.b.Missing(); n != missing {
		x.t.Fatalf("Missing = %d, want %d", n, missing)
	}
}

func (x *watch) next(peer, now int) (api.Query, bool) {
	x.t.Helper()
	q, ok, e := x.b.Next(peer, now)
	if r, want, f := x.p.next(peer, now); q != r || ok != want || e != f {
		x.t.Fatalf("Next(%d, %d) = %v, %v, %d; want %v, %v, %d", peer, now, q, ok, e, r, want, f)
	}
	x.look()
	return q, ok
}

func (x *watch) accept(peer int, q api.Query, hashes []api.Hash) ([]int, api.Errno) {
	x.t.Helper()
	l, e := x.b.Accept(peer, q, hashes)
	if w, f := x.p.accept(peer, q, hashes); !slices.Equal(l, w) || e != f {
		x.t.Fatalf("Accept(%d, %v) = %v, %d; want %v, %d", peer, q, l, e, w, f)
	}
	x.look()
	return l, e
}

func (x *watch) reject(peer int, q api.Query) api.Errno {
	x.t.Helper()
	e := x.b.Reject(peer, q)
	if f := x.p.reject(peer, q); e != f {
		x.t.Fatalf("Reject(%d, %v) = %d; want %d", peer, q, e, f)
	}
	x.look()
	return e
}

func (x *watch) expire(now int) []api.Late {
	x.t.Helper()
	l := x.b.Expire(now)
	if w := x.p.expire(now); !slices.Equal(l, w) {
		x.t.Fatalf("Expire(%d) = %v; want %v", now, l, w)
	}
	x.look()
	return l
}

func (x *watch) drop(peer int) api.Errno {
	x.t.Helper()
	e := x.b.Drop(peer)
	if f := x.p.drop(peer); e != f {
		x.t.Fatalf("Drop(%d) = %d; want %d", peer, e, f)
	}
	x.look()
	return e
}

// asks fails the test unless a peer is asked for the chunk with this Index; -1: for nothing.
func (x *watch) asks(peer, now, index int) api.Query {
	x.t.Helper()
	q, ok := x.next(peer, now)
	if ok != (index >= 0) || ok && q.Index != index {
		x.t.Fatalf("Next(%d, %d) = %v, %v; want the Index %d", peer, now, q, ok, index)
	}
	return q
}

// out is the query that is out at a peer.
func (x *watch) out(peer int) (api.Query, bool) {
	o, ok := x.p.out[peer]
	if !ok {
		return api.Query{}, false
	}
	return x.p.parts[o[0]].query, true
}

func wants(t *testing.T, what string, e, want api.Errno) {
	t.Helper()
	if e != want {
		t.Fatalf("%s = %d, want %d", what, e, want)
	}
}

// turned is a list of hashes with one bit changed.
func turned(l []api.Hash, at, bit int) []api.Hash {
	l = slices.Clone(l)
	l[at][bit/8] ^= 1 << (bit % 8)
	return l
}
