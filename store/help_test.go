package store_test

import (
	"bytes"
	"crypto/sha256"
	"encoding/binary"
	"math"
	"math/rand"
	"slices"
	"testing"

	"torrent/api"
	"torrent/disk"
	"torrent/journal"
	"torrent/store"
)

var own = api.Scale{Block: 64, Width: 32}

var torrent = api.Hash{5, 6, 7, 31: 8}

func hash(sc api.Scale, b []byte) api.Hash {
	h := api.Hash(sha256.Sum256(b))
	clear(h[sc.Width:])
	return h
}

// root is the hash of a piece's bytes, by the chapter on trees.
func root(sc api.Scale, data []byte, leaves int) api.Hash {
	if leaves == 1 {
		if len(data) == 0 {
			return api.Hash{}
		}
		return hash(sc, data)
	}
	half := min(len(data), leaves/2*sc.Block)
	l, r := root(sc, data[:half], leaves/2), root(sc, data[half:], leaves/2)
	return hash(sc, slices.Concat(l[:], r[:]))
}

// piece is a piece with these bytes, whose hash is known.
func piece(sc api.Scale, data []byte, leaves int) api.Piece {
	return api.Piece{Len: len(data), Leaves: leaves, Known: true, Hash: root(sc, data, leaves)}
}

// dark is the list without the hashes at some places; what stands there all the same is not looked at.
func dark(ps []api.Piece, at ...int) []api.Piece {
	ps = slices.Clone(ps)
	for _, i := range at {
		if ps[i].Known = false; i%2 > 0 {
			ps[i].Hash = api.Hash{99}
		}
	}
	return ps
}

// head is the first sector, by the chapter's table.
func head(mark api.Hash, pieces, sectors int) []byte {
	b := binary.BigEndian.AppendUint32([]byte("torrent2"), uint32(pieces))
	b = binary.BigEndian.AppendUint32(b, uint32(sectors))
	b = append(b, mark[:]...)
	sum := sha256.Sum256(b)
	return append(append(b, sum[:8]...), "endstore"...)
}

func isHead(b []byte) bool {
	sum := sha256.Sum256(b[:48])
	return string(b[:8]) == "torrent2" && bytes.Equal(b[48:56], sum[:8]) && string(b[56:]) == "endstore"
}

// sectors is how many sectors all pieces have.
func sectors(ps []api.Piece) int {
	n := 0
	for _, p := range ps {
		for at := 0; at < p.Len; at += 64 {
			n++
		}
	}
	return n
}

// need is what Need answers for a list that may be.
func need(ps []api.Piece) int { return len(ps) + 4 + sectors(ps) }

// plain is a store as the document tells of it, on a disk of its own.
type plain struct {
	sc    api.Scale
	d     *disk.Disk
	j     *journal.Journal
	ps    []api.Piece
	had   []bool
	marks [][]bool
}

// lay opens a plain store on a disk that is large enough, with a list that may be.
func lay(sc api.Scale, d *disk.Disk, mark api.Hash, ps []api.Piece) (*plain, api.Errno) {
	b, _ := d.Read(0)
	want := head(mark, len(ps), sectors(ps))
	if isHead(b) && !bytes.Equal(b, want) {
		return nil, api.ErrStoreOther
	}
	if !isHead(b) {
		if !bytes.Equal(b, make([]byte, 64)) {
			d.Write(0, make([]byte, 64))
			d.Sync()
		}
		journal.Format(d, 1, len(ps)+3)
		d.Write(0, want)
		d.Sync()
	}
	p := &plain{sc: sc, d: d, ps: slices.Clone(ps), had: make([]bool, len(ps)), marks: make([][]bool, len(ps))}
	p.j, _ = journal.Open(d, 1, len(ps)+3)
	if !p.j.Clean() {
		p.j.Scrub()
	}
	for i := range ps {
		p.marks[i] = make([]bool, p.blocks(i))
	}
	for i := range ps {
		p.judge(i)
	}
	return p, api.OK
}

func (p *plain) blocks(i int) int { return (p.ps[i].Len-1)/p.sc.Block + 1 }

// first is the first sector of a piece.
func (p *plain) first(i int) int { return len(p.ps) + 4 + sectors(p.ps[:i]) }

// bytes are the bytes of a piece as they are read now.
func (p *plain) bytes(i int) []byte {
	return p.d.Image()[64*p.first(i):][:p.ps[i].Len]
}

func (p *plain) right(i int) bool {
	return p.ps[i].Known && root(p.sc, p.bytes(i), p.ps[i].Leaves) == p.ps[i].Hash
}

func (p *plain) claimed(i int) bool {
	return slices.ContainsFunc(p.j.Live(), func(r api.Record) bool {
		return r.Kind == 1 && bytes.Equal(r.Data, binary.BigEndian.AppendUint32(nil, uint32(i)))
	})
}

func (p *plain) claim(i int) api.Errno {
	if p.claimed(i) {
		return api.OK
	}
	if _, e := p.j.Append(1, binary.BigEndian.AppendUint32(nil, uint32(i))); e != api.OK {
		return api.ErrStoreFull
	}
	return api.OK
}

func (p *plain) own(i int) {
	p.had[i] = true
	p.marks[i] = slices.Repeat([]bool{true}, p.blocks(i))
}

func (p *plain) judge(i int) {
	if p.claimed(i) && p.right(i) {
		p.own(i)
	}
}

func (p *plain) check(i int) api.Errno {
	switch {
	case i < 0 || i >= len(p.ps):
		return api.ErrStorePiece
	case !p.ps[i].Known:
		return api.ErrStoreUnknown
	case p.had[i]:
		return api.ErrStoreHave
	}
	return api.OK
}

func (p *plain) put(i, begin int, data []byte) api.Errno {
	if e := p.check(i); e != api.OK {
		return e
	}
	if begin < 0 || begin >= p.ps[i].Len || begin%p.sc.Block != 0 || len(data) != min(p.sc.Block, p.ps[i].Len-begin) {
		return api.ErrStoreRange
	}
	for at, b := range slices.Collect(slices.Chunk(data, 64)) {
		p.d.Write(p.first(i)+begin/64+at, append(bytes.Clone(b), make([]byte, 64-len(b))...))
	}
	p.marks[i][begin/p.sc.Block] = true
	return api.OK
}

func (p *plain) finish(i int) api.Errno {
	if e := p.check(i); e != api.OK {
		return e
	}
	if slices.Contains(p.marks[i], false) {
		return api.ErrStoreLack
	}
	if !p.right(i) {
		clear(p.marks[i])
		return api.ErrStoreBad
	}
	if e := p.claim(i); e != api.OK {
		return e
	}
	p.own(i)
	return api.OK
}

func (p *plain) learn(i int, h api.Hash) (bool, api.Errno) {
	if i < 0 || i >= len(p.ps) {
		return false, api.ErrStorePiece
	}
	if p.ps[i].Known {
		if p.ps[i].Hash != h {
			return false, api.ErrStoreKnown
		}
		return p.had[i], api.OK
	}
	p.ps[i].Known, p.ps[i].Hash = true, h
	p.judge(i)
	return p.had[i], api.OK
}

func (p *plain) read(i, begin, n int) ([]byte, api.Errno) {
	switch {
	case i < 0 || i >= len(p.ps):
		return nil, api.ErrStorePiece
	case !p.had[i]:
		return nil, api.ErrStoreLack
	case begin < 0 || n < 0 || begin > p.ps[i].Len || n > p.ps[i].Len-begin:
		return nil, api.ErrStoreRange
	}
	return p.bytes(i)[begin:][:n], api.OK
}

func (p *plain) recheck() (int, api.Errno) {
	n, e := 0, api.OK
	for i := range p.ps {
		if p.had[i] || !p.right(i) {
			continue
		}
		if p.claim(i) != api.OK {
			e = api.ErrStoreFull
			continue
		}
		p.own(i)
		n++
	}
	return n, e
}

// field is a bitfield, by the chapter on them.
func field(bits []bool) []byte {
	b := make([]byte, (len(bits)+7)/8)
	for i, on := range bits {
		if on {
			b[i/8] |= 128 >> (i % 8)
		}
	}
	return b
}

// made is a disk of so many zero sectors.
func made(t *testing.T, size int) *disk.Disk {
	t.Helper()
	d, e := disk.New(size)
	if e != api.OK {
		t.Fatalf("New(%d) = %d", size, e)
	}
	return d
}

// opened is the store on a disk that must be taken.
func opened(t *testing.T, sc api.Scale, d *disk.Disk, ps []api.Piece) *store.Store {
	t.Helper()
	s, e := store.Open(sc, d, torrent, ps)
	if s == nil || e != api.OK {
		t.Fatalf("Open = %v, %d", s, e)
	}
	return s
}

// watch is a store beside the plain one that it must be like.
type watch struct {
	t  *testing.T
	sc api.Scale
	d  *disk.Disk
	s  *store.Store
	p  *plain
}

// begin opens a store on a disk, and the plain one on a copy of it.
func begin(t *testing.T, sc api.Scale, d *disk.Disk, ps []api.Piece) *watch {
	t.Helper()
	x := &watch{t: t, sc: sc, d: d, p: &plain{d: d.Copy()}}
	x.open(ps)
	return x
}

// open opens both anew.
func (x *watch) open(ps []api.Piece) {
	x.t.Helper()
	d := x.p.d
	p, want := lay(x.sc, d, torrent, ps)
	s, e := store.Open(x.sc, x.d, torrent, ps)
	if e != want || e == api.OK != (s != nil) {
		x.t.Fatalf("Open = %v, %d, want %d", s, e, want)
	}
	if e != api.OK {
		x.t.Fatalf("Open = %d: the rows begin with no disk of another torrent", e)
	}
	x.s, x.p = s, p
	x.look()
}

// look holds all that can be seen of the store and of its disk against the plain ones.
func (x *watch) look() {
	x.t.Helper()
	if b := x.s.Have(); !bytes.Equal(b, field(x.p.had)) {
		x.t.Fatalf("Have = %v, want %v", b, field(x.p.had))
	}
	for i := range x.p.ps {
		if b, e := x.s.Blocks(i); e != api.OK || !bytes.Equal(b, field(x.p.marks[i])) {
			x.t.Fatalf("Blocks(%d) = %v, %d, want %v", i, b, e, field(x.p.marks[i]))
		}
		x.read(i, 0, x.p.ps[i].Len)
	}
	for _, i := range []int{math.MinInt, -1, len(x.p.ps), math.MaxInt} {
		if b, e := x.s.Blocks(i); len(b) != 0 || e != api.ErrStorePiece {
			x.t.Fatalf("Blocks(%d) = %v, %d", i, b, e)
		}
	}
	if l := x.d.Pending(); !slices.Equal(l, x.p.d.Pending()) {
		x.t.Fatalf("Pending = %v, want %v", l, x.p.d.Pending())
	}
	if !bytes.Equal(x.d.Image(), x.p.d.Image()) || !bytes.Equal(x.d.Durable(), x.p.d.Durable()) {
		x.t.Fatalf("the disk reads as %v, want %v", x.d.Image(), x.p.d.Image())
	}
}

// same holds an answer against the plain store's, and then all that can be seen.
func (x *watch) same(call string, e, want api.Errno) api.Errno {
	x.t.Helper()
	if e != want {
		x.t.Fatalf("%s = %d, want %d", call, e, want)
	}
	x.look()
	return e
}

func (x *watch) put(i, begin int, data []byte) api.Errno {
	x.t.Helper()
	return x.same("Put", x.s.Put(i, begin, data), x.p.put(i, begin, data))
}

func (x *watch) finish(i int) api.Errno {
	x.t.Helper()
	return x.same("Finish", x.s.Finish(i), x.p.finish(i))
}

func (x *watch) learn(i int, h api.Hash) (bool, api.Errno) {
	x.t.Helper()
	ok, e := x.s.Learn(i, h)
	had, want := x.p.learn(i, h)
	if ok != had {
		x.t.Fatalf("Learn(%d) = %v, want %v", i, ok, had)
	}
	return ok, x.same("Learn", e, want)
}

func (x *watch) read(i, begin, n int) ([]byte, api.Errno) {
	x.t.Helper()
	b, e := x.s.Read(i, begin, n)
	c, want := x.p.read(i, begin, n)
	if e != want || !bytes.Equal(b, c) {
		x.t.Fatalf("Read(%d, %d, %d) = %v, %d, want %v, %d", i, begin, n, b, e, c, want)
	}
	return b, e
}

func (x *watch) recheck() (int, api.Errno) {
	x.t.Helper()
	n, e := x.s.Recheck()
	m, want := x.p.recheck()
	if n != m {
		x.t.Fatalf("Recheck = %d, want %d", n, m)
	}
	return n, x.same("Recheck", e, want)
}

func (x *watch) sync() api.Errno {
	x.t.Helper()
	return x.same("Sync", x.s.Sync(), x.p.d.Sync())
}

func (x *watch) fuse(n int) {
	x.t.Helper()
	x.same("Fuse", x.d.Fuse(n), x.p.d.Fuse(n))
}

// write writes a sector behind the store's back; the store must be opened anew.
func (x *watch) write(at int, b []byte) {
	x.t.Helper()
	if e, f := x.d.Write(at, b), x.p.d.Write(at, b); e != api.OK || f != api.OK {
		x.t.Fatalf("Write(%d) = %d, %d", at, e, f)
	}
}

// crash lets both disks crash; the stores are opened anew.
func (x *watch) crash(keep []bool, torn, cut int, ps []api.Piece) {
	x.t.Helper()
	if e := x.d.Crash(keep, torn, cut); e != api.OK {
		x.t.Fatalf("Crash(%v, %d, %d) = %d", keep, torn, cut, e)
	}
	x.p.d.Crash(keep, torn, cut)
	x.open(ps)
}

// puts lays all blocks of a piece down, which must be taken.
func (x *watch) puts(i int, data []byte) {
	x.t.Helper()
	for at := 0; at < len(data); at += x.sc.Block {
		if e := x.put(i, at, data[at:min(len(data), at+x.sc.Block)]); e != api.OK {
			x.t.Fatalf("Put(%d, %d) = %d", i, at, e)
		}
	}
}

// wants fails the test unless e is that error.
func wants(t *testing.T, call string, e, want api.Errno) {
	t.Helper()
	if e != want {
		t.Fatalf("%s = %d, want %d", call, e, want)
	}
}

func content(r *rand.Rand, n int) []byte {
	b := make([]byte, n)
	r.Read(b)
	return b
}

// keeping is what a number's bits say of n writes.
func keeping(n, bits int) []bool {
	keep := make([]bool, n)
	for i := range keep {
		keep[i] = bits>>i&1 == 1
	}
	return keep
}

// flips keeps some of a disk's unsynced writes.
func flips(r *rand.Rand, d *disk.Disk) []bool {
	keep := make([]bool, len(d.Pending()))
	for i := range keep {
		keep[i] = r.Intn(3) > 0
	}
	return keep
}

// record is a sector of the ring, by the chapter on the journal, with itself as its low.
func record(seq uint32, kind byte, data []byte) []byte {
	b := binary.BigEndian.AppendUint32([]byte{74}, seq)
	b = binary.BigEndian.AppendUint32(b, seq)
	b = append(append(b, kind, byte(len(data))), data...)
	b = append(b, make([]byte, 52-len(b))...)
	sum := sha256.Sum256(b)
	return binary.BigEndian.AppendUint32(append(b, sum[:8]...), seq)
}
