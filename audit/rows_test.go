package audit_test

import (
	"bytes"
	"math/rand"
	"slices"
	"testing"

	"torrent/api"
	"torrent/audit"
	"torrent/create"
	"torrent/disk"
	"torrent/meta"
	"torrent/proof"
	"torrent/store"
	"torrent/tree"
)

// world is a torrent made of given files, what is told of it, and somebody's files.
type world struct {
	sc    api.Scale
	given []api.Source
	whole api.Meta // as it was built
	m     api.Meta // the same, some layers may lack, or lie
	lies  bool
	pool  []api.Source
}

func anyPath(r *rand.Rand) []string {
	p := []string{string(rune('a' + r.Intn(6)))}
	for r.Intn(3) == 0 {
		p = append(p, string(rune('a'+r.Intn(2))))
	}
	return p
}

// anyWorld makes one by chance; false, if the files that it thought of can't be together.
func anyWorld(r *rand.Rand) (world, bool) {
	w := world{sc: []api.Scale{own, tiny, {Block: 64, Width: 2}, {Block: 128, Width: 32}}[r.Intn(4)]}
	pieceLen := w.sc.Block << r.Intn(3)
	for range 1 + r.Intn(4) {
		n := []int{0, 1, w.sc.Block - 1, w.sc.Block, w.sc.Block + 1, pieceLen, pieceLen + 1, 2 * pieceLen, 3*pieceLen - 1, r.Intn(5 * pieceLen)}[r.Intn(10)]
		f := file(some(r.Intn(3), n), anyPath(r)...)
		if len(w.given) > 0 && r.Intn(4) == 0 {
			f.Data = w.given[r.Intn(len(w.given))].Data
		}
		w.given = append(w.given, f)
	}
	m, e := create.Build(w.sc, "t", pieceLen, w.given)
	if e != api.OK {
		return w, false
	}
	w.whole, w.m = m, m
	for len(w.m.Layers) > 0 && r.Intn(3) == 0 {
		k := r.Intn(len(w.m.Layers))
		w.m.Layers = slices.Delete(slices.Clone(w.m.Layers), k, k+1)
	}
	if r.Intn(5) == 0 {
		w.lie(r)
	}
	w.somePool(r)
	return w, meta.Check(w.sc, w.m) == api.OK
}

// lie changes what is told of one file: the root of a small one, or a hash of a layer and the root with it.
func (w *world) lie(r *rand.Rand) {
	k := r.Intn(len(w.m.Files))
	f := w.m.Files[k]
	if f.Len == 0 {
		return
	}
	w.lies = true
	was := f.Root
	f.Root[r.Intn(w.sc.Width)] ^= byte(1 + r.Intn(255))
	w.m.Layers = slices.Clone(w.m.Layers)
	for i, l := range w.m.Layers {
		if l.Root == was {
			l.Hashes = slices.Clone(l.Hashes)
			l.Hashes[r.Intn(len(l.Hashes))][r.Intn(w.sc.Width)] ^= 1
			l.Root, _ = tree.LayerRoot(w.sc, w.m.PieceLen, f.Len, l.Hashes)
			f.Root = l.Root
			w.m.Layers[i] = l
		}
	}
	slices.SortFunc(w.m.Layers, func(a, b api.Layer) int { return bytes.Compare(a.Root[:], b.Root[:]) })
	w.m.Files = slices.Clone(w.m.Files)
	for i := range w.m.Files {
		if w.m.Files[i].Root == was {
			w.m.Files[i].Root = f.Root
		}
	}
}

// somePool takes given files, as they are or nearly, under any names.
func (w *world) somePool(r *rand.Rand) {
	for range r.Intn(8) {
		f := w.given[r.Intn(len(w.given))]
		if r.Intn(2) == 0 {
			f.Path = anyPath(r)
		}
		if r.Intn(12) == 0 {
			f.Path = [][]string{nil, {}, {""}, {"a/b"}}[r.Intn(4)]
		}
		f.Data = w.nearly(r, f.Data)
		if r.Intn(30) > 0 && slices.ContainsFunc(w.pool, func(p api.Source) bool { return slices.Equal(p.Path, f.Path) }) {
			continue
		}
		w.pool = slices.Insert(w.pool, r.Intn(len(w.pool)+1), f)
	}
}

// nearly are the bytes themselves, or such as differ by little.
func (w *world) nearly(r *rand.Rand, b []byte) []byte {
	switch n := r.Intn(8); {
	case n == 0:
		return append(slices.Clone(b), some(1, 1+r.Intn(100))...)
	case len(b) == 0:
	case n == 1:
		return b[:r.Intn(len(b))]
	case n == 2:
		return changed(b, r.Intn(len(b)))
	case n == 3 && w.sc == tiny:
		return twin(r, w.sc, b)
	case n == 4 && w.sc == tiny:
		at := r.Intn(len(b)) / w.sc.Block * w.sc.Block // a block with the digest of the given one
		end := min(at+w.sc.Block, len(b))
		return slices.Concat(b[:at], twin(r, w.sc, b[at:end]), b[end:])
	}
	return b
}

// aList is what a store may be told of the pieces; true, if it is m's and nothing else.
func (w *world) aList(t *testing.T, r *rand.Rand) ([]api.Piece, bool) {
	list := listed(t, w.sc, w.m)
	switch r.Intn(8) {
	case 0:
		return unknown(list), true
	case 1:
		for i := range list {
			list[i].Known = list[i].Known && r.Intn(2) == 0
		}
	case 2: // another torrent's, nearly
		return listed(t, w.sc, w.whole), !w.lies
	case 3:
		if len(list) > 0 {
			k := r.Intn(len(list))
			switch p := &list[k]; r.Intn(4) {
			case 0:
				list = list[:k]
			case 1:
				p.Hash[0] ^= byte(r.Intn(3))
			case 2:
				p.Len = max(1, p.Len-r.Intn(3))
			case 3:
				p.Leaves = min(2*p.Leaves, 1024)
			}
			return list, false
		}
	}
	return list, true
}

// lived is a disk on which a store of these pieces has been, with some of the given files' pieces, and perhaps a crash behind it.
func (w *world) lived(t *testing.T, r *rand.Rand, list []api.Piece) *disk.Disk {
	d := room(t, w.sc, list)
	if r.Intn(3) == 0 {
		return d
	}
	s := opened(t, w.sc, d, list)
	pieces, e := create.Slice(w.whole, w.given)
	if e != api.OK {
		t.Fatal("create.Slice:", e)
	}
	for i, b := range pieces {
		if r.Intn(3) > 0 {
			continue
		}
		for from := 0; from < len(b); from += w.sc.Block {
			s.Put(i, from, b[from:min(from+w.sc.Block, len(b))])
		}
		if r.Intn(4) > 0 {
			s.Finish(i)
		}
		if r.Intn(4) > 0 {
			s.Sync()
		}
	}
	return d
}

// wantSameStores looks whether two stores and their disks are the same.
func wantSameStores(t *testing.T, s, z *store.Store, d, y *disk.Disk) {
	t.Helper()
	if !bytes.Equal(s.Have(), z.Have()) || !bytes.Equal(d.Image(), y.Image()) || !bytes.Equal(d.Durable(), y.Durable()) || !slices.Equal(d.Pending(), y.Pending()) {
		t.Errorf("P25.4: the stores have %v and %v, or the disks differ", s.Have(), z.Have())
	}
	for i := range 8 * len(s.Have()) {
		a, e := s.Blocks(i)
		b, f := z.Blocks(i)
		if !bytes.Equal(a, b) || e != f {
			t.Errorf("P25.4: of piece %d there are the blocks %v, want %v", i, a, b)
		}
	}
}

// tally counts what was met in all worlds.
type tally struct {
	seen
	worlds, pools, found, missed, extra, whole, torn, forged int
	states                                                   [5]int
}

// P25.1 to P25.5: all calls against the plain ones, in worlds made by chance.
func TestAgainstPlainCalls(t *testing.T) {
	r := rand.New(rand.NewSource(25))
	var n tally
	for range 6000 {
		w, ok := anyWorld(r)
		if !ok || t.Failed() {
			continue
		}
		n.worlds++
		w.lookedThrough(t, &n)
		w.takenIn(t, r, &n)
	}
	for i, count := range []int{n.worlds - 2000, n.pools, n.found, n.missed, n.extra, n.whole, n.torn, n.forged, n.byMatch, n.byName, n.learnt, n.refused, n.unfinished, n.states[1], n.states[2], n.states[3], n.states[4]} {
		if count < 50 && !t.Failed() {
			t.Errorf("too tame: %d of %v", i, n)
		}
	}
}

// lookedThrough holds Check, Extra and Match against the plain ones.
func (w *world) lookedThrough(t *testing.T, n *tally) {
	found, e := audit.Check(w.sc, w.m, w.pool)
	if want, f := plainCheck(w.sc, w.m, w.pool); !slices.Equal(found, want) || e != f {
		t.Errorf("P25.1: Check = %v, %d, want %v, %d", found, e, want, f)
	}
	if e == api.OK {
		n.pools++
	}
	for _, f := range found {
		n.states[f.State]++
	}
	extra, e := audit.Extra(w.m, w.pool)
	if want, f := plainExtra(w.m, w.pool); !slices.Equal(extra, want) || e != f {
		t.Errorf("P25.2: Extra = %v, %d, want %v, %d", extra, e, want, f)
	}
	n.extra += len(extra)
	match, e := audit.Match(w.sc, w.m, w.pool)
	if want, f := plainMatch(w.sc, w.m, w.pool); !slices.Equal(match, want) || e != f {
		t.Errorf("P25.3: Match = %v, %d, want %v, %d", match, e, want, f)
	}
	for _, at := range match {
		if at < 0 {
			n.missed++
		} else {
			n.found++
		}
	}
}

// takenIn holds Import and Export, twice, against the plain ones on a copy of the disk; and looks whether P25.6 and P25.8 hold.
func (w *world) takenIn(t *testing.T, r *rand.Rand, n *tally) {
	before, ours := w.aList(t, r)
	d := w.lived(t, r, before)
	if r.Intn(2) == 0 {
		keep := make([]bool, len(d.Pending()))
		for i := range keep {
			keep[i] = r.Intn(2) == 0
		}
		if e := d.Crash(keep, -1, 0); e != api.OK {
			t.Fatal("disk.Crash:", e)
		}
	}
	list := before
	if ours && r.Intn(3) == 0 {
		list = unknown(before)
	}
	y := d.Copy()
	s, z := opened(t, w.sc, d, list), opened(t, w.sc, y, list)
	for range 2 {
		pool := w.pool
		if r.Intn(4) == 0 && len(pool) > 0 {
			pool = pool[:r.Intn(len(pool))]
		}
		came, e := audit.Import(w.sc, w.m, s, pool)
		if want, f := plainImport(w.sc, w.m, z, pool, &n.seen); came != want || e != f {
			t.Errorf("P25.4: Import = %d, %d, want %d, %d", came, e, want, f)
		}
		wantSameStores(t, s, z, d, y)
		out, e := audit.Export(w.m, s)
		if want, f := plainExport(w.m, z); !same(out, want) || e != f {
			t.Errorf("P25.5: Export = %v, %d, want %v, %d", out, e, want, f)
		}
		n.whole += len(out)
		n.torn += len(w.m.Files) - len(out)
		if ours {
			w.rightIn(t, s, pool)
			w.goodOut(t, out, n)
		}
	}
}

// rightIn looks whether all that is there is right, and whether all that Check finds right is there.
func (w *world) rightIn(t *testing.T, s *store.Store, pool []api.Source) {
	for i, p := range listed(t, w.sc, w.whole) {
		if !has(s, i) || w.lies {
			continue
		}
		b, e := s.Read(i, 0, p.Len)
		if e != api.OK || top(w.sc, b, p.Leaves) != p.Hash {
			t.Errorf("P25.6: piece %d is there, and is not right (%d)", i, e)
		}
	}
	found, _ := audit.Check(w.sc, w.m, pool)
	for _, f := range found {
		if f.State == api.FoundRight && !has(s, f.Piece) {
			t.Errorf("P25.8: piece %d is right in the pool, and is not there", f.Piece)
		}
	}
}

// goodOut looks at what comes out: it has the length and the root that are told, and is what was given, or there are two texts of one digest.
func (w *world) goodOut(t *testing.T, out []api.Source, n *tally) {
	for _, x := range out {
		k := slices.IndexFunc(w.m.Files, func(f api.File) bool { return slices.Equal(f.Path, x.Path) })
		if k < 0 || len(x.Data) != w.m.Files[k].Len || len(x.Data) > 0 && top(w.sc, x.Data, 0) != w.m.Files[k].Root {
			t.Errorf("P25.6: %v comes out with other bytes than are told", x.Path)
		}
		if w.lies || among(w.given, x) {
			continue
		}
		g := w.given[slices.IndexFunc(w.given, func(g api.Source) bool { return slices.Equal(g.Path, x.Path) })]
		p, q, e := proof.Collide(w.sc, g.Data, x.Data)
		if e != api.OK || bytes.Equal(p, q) || sum(w.sc, p) != sum(w.sc, q) {
			t.Errorf("P25.6: %v is another file, and Collide answers %d", x.Path, e)
		}
		n.forged++
	}
}

// P25.7: a pool that has all files, among others, under any paths.
func TestAllComes(t *testing.T) {
	r := rand.New(rand.NewSource(7))
	worlds := 0
	for range 2000 {
		w, ok := anyWorld(r)
		if !ok {
			continue
		}
		pool := slices.Clone(w.given)
		for i, p := range numbered(len(pool)+3, nil) {
			if i == len(pool) {
				pool = append(pool, file(w.nearly(r, w.given[r.Intn(len(w.given))].Data)))
			}
			pool[i].Path = p.Path
		}
		if r.Intn(2) == 0 {
			pool[r.Intn(len(w.given)+3)].Path = w.given[r.Intn(len(w.given))].Path
		}
		r.Shuffle(len(pool), func(i, j int) { pool[i], pool[j] = pool[j], pool[i] })
		list := listed(t, w.sc, w.whole)
		if r.Intn(2) == 0 {
			list = unknown(list)
		}
		d := w.lived(t, r, list)
		s := opened(t, w.sc, d, list)
		_, e := audit.Import(w.sc, w.whole, s, pool)
		for i := range list {
			if !has(s, i) || e != api.OK {
				t.Fatalf("P25.7: piece %d is not there, %d", i, e)
			}
		}
		if n, e := audit.Import(w.sc, w.whole, s, pool); n != 0 || e != api.OK {
			t.Errorf("P25.7: Import again = %d, %d", n, e)
		}
		out, e := audit.Export(w.whole, s)
		if e != api.OK || len(out) != len(w.given) {
			t.Errorf("P25.7: Export = %d files, %d", len(out), e)
		}
		worlds++
	}
	if worlds < 500 {
		t.Errorf("too tame: %d worlds", worlds)
	}
}
