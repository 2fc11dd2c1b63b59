package engine_test

import (
	"bytes"
	"math/rand"
	"slices"
	"strconv"
	"testing"

	"torrent/api"
	"torrent/create"
	"torrent/digest"
	"torrent/engine"
	"torrent/meta"
	"torrent/proof"
	"torrent/tree"
)

// narrow is a scale at which texts of one digest are soon found.
var narrow = api.Scale{Block: 64, Width: 1}

// shown fails the test unless these two texts were answered, and are what they must be (P20.9).
func shown(t *testing.T, sc api.Scale, a, b []byte, e api.Errno, first, second []byte) {
	t.Helper()
	if e != api.OK || !bytes.Equal(a, first) || !bytes.Equal(b, second) {
		t.Fatalf("Evidence = %v, %v, %d\nwanted %v, %v", a, b, e, first, second)
	}
	if !digest.Clash(sc, a, b) {
		t.Fatalf("the digests of %v and %v are not the same, or they are", a, b)
	}
}

// P20.8, P0.2, P0.8: the refusals, in their order.
func TestEvidenceRefused(t *testing.T) {
	x := abc(t)
	other := made(t, own, 64, []byte("abd"))
	bad := []api.Move{{Kind: api.MoveWire}}
	for _, c := range []struct {
		sc       api.Scale
		name     string
		pieceLen int
		files    []api.Source
		text     []byte
		sectors  int
		moves    []api.Move
		want     api.Errno
	}{
		{api.Scale{}, "", 0, nil, nil, 0, bad, api.ErrScale},
		{own, "", 0, nil, nil, 0, bad, api.ErrMetaPiece},
		{own, "", 64, nil, nil, 0, bad, api.ErrNameEmpty},
		{own, "t", 64, nil, nil, 0, bad, api.ErrMetaTree},
		{own, "t", 64, x.sources, nil, 0, times(4097, bad[0]), api.ErrMoves},
		{own, "t", 64, x.sources, nil, 0, bad, api.ErrMove},
		{own, "t", 64, x.sources, x.text, 6, bad, api.ErrMove},
		{own, "t", 64, x.sources, nil, 0, nil, api.ErrSector},
		{own, "t", 64, x.sources, nil, 6, nil, api.ErrApart},
		{own, "t", 64, x.sources, x.text, 5, nil, api.ErrApart},
		{own, "t", 64, x.sources, other.text, 6, nil, api.ErrApart},
		{own, "u", 64, x.sources, x.text, 6, nil, api.ErrApart},
		{own, "t", 128, x.sources, x.text, 6, nil, api.ErrApart},
		{own, "t", 64, x.sources, x.text, 6, nil, api.ErrSame},
		{own, "t", 64, x.sources, x.text, 6, x.fetched(1), api.ErrSame},
		{own, "t", 64, x.sources, x.bare(), 60, x.fetched(1), api.ErrSame},
	} {
		a, b, e := engine.Evidence(c.sc, c.name, c.pieceLen, c.files, c.text, c.sectors, c.moves)
		if !nothing(a, b, e, c.want) {
			t.Errorf("Evidence(%v, %q, %d, %d files, %q, %d) = %v, %v, %d, want %d", c.sc, c.name, c.pieceLen, len(c.files), c.text, c.sectors, a, b, e, c.want)
		}
	}
}

// P20.8, 1: another info dictionary of the same digest.
func TestOtherInfo(t *testing.T) {
	x := made(t, narrow, 64, []byte("abc"))
	for i := range 5000 {
		name := strconv.Itoa(i)
		text, e := create.Create(narrow, name, 64, []api.Source{source("a", []byte("abx")), source("b", nil)})
		wants(t, "Create", e, api.OK)
		if h, _ := meta.Infohash(narrow, text); h != x.info {
			continue
		}
		inner := func(b []byte) []byte {
			return b[bytes.Index(b, []byte("4:info"))+6 : bytes.Index(b, []byte("12:piece layers"))]
		}
		a, b, e := engine.Evidence(narrow, "t", 64, x.sources, text, 20, nil)
		shown(t, narrow, a, b, e, inner(text), inner(x.text))
		// the other way round
		y, _ := build(narrow, 64, source("a", []byte("abx")), source("b", nil))
		y.name = name
		a, b, e = y.evidence(x.text, x.fetched(1)...)
		shown(t, narrow, a, b, e, inner(x.text), inner(text))
		return
	}
	t.Error("none was found")
}

// P20.8, 2: of keys outside the info dictionary nothing is asked.
func TestOtherOuterKeys(t *testing.T) {
	x := abc(t)
	m := x.m
	m.Top = []api.Pair{{Key: "comment", Val: api.Value{Kind: api.KindStr, Str: "hm"}}}
	text, e := meta.Print(own, m)
	wants(t, "Print", e, api.OK)
	if a, b, e := x.evidence(text, x.fetched(1)...); !nothing(a, b, e, api.ErrSame) {
		t.Errorf("Evidence = %v, %v, %d", a, b, e)
	}
}

// false2 is a torrent of a file of two pieces, a row of two other hashes that leads to its root, and other blocks that have these.
func false2(t *testing.T, r *rand.Rand) (*torrent, api.Msg, [2][]byte) {
	t.Helper()
	for {
		x := made(t, narrow, 64, content(r, 128))
		m := x.proves(x.plan(t, 0)[0])
		c := &crowd{plain: &plain{x: x}, r: r}
		m.Hashes = c.forge(x.plan(t, 0)[0], m.Hashes)
		if c.fakes == 0 {
			continue
		}
		var blocks [2][]byte
		for i := range blocks {
			for range 5000 {
				b := content(r, 64)
				if h, _ := digest.Hash(narrow, b); h == m.Hashes[i] {
					blocks[i] = b
				}
			}
		}
		if blocks[0] != nil && blocks[1] != nil {
			return x, m, blocks
		}
	}
}

// block2 is the message that brings a piece of one block.
func block2(piece int, b []byte) api.Msg { return api.Msg{Kind: api.MsgPiece, Index: piece, Data: b} }

// P20.8, 3: a row of hashes that isn't the true one; 2: as long as no file is done by it, nothing is shown.
func TestFalseRow(t *testing.T) {
	r := rand.New(rand.NewSource(91))
	for range 5 {
		x, m, blocks := false2(t, r)
		moves := slices.Concat(x.seeds(1), []api.Move{says(1, m), says(1, block2(0, blocks[0])), says(1, block2(1, blocks[1]))})
		layer, _ := tree.PieceLayer(narrow, 64, x.files[0])
		a, b, e := x.evidence(x.bare(), moves...)
		shown(t, narrow, a, b, e, slices.Concat(layer[0][:], layer[1][:]), slices.Concat(m.Hashes[0][:], m.Hashes[1][:]))
		if a, b, e := x.evidence(x.bare(), moves[:4]...); !nothing(a, b, e, api.ErrSame) {
			t.Fatalf("ahead of the last block: %v, %v, %d", a, b, e)
		}
		// What another session took behind a crash is the same to it.
		moves = slices.Concat(moves, []api.Move{syncs(), crash()}, x.seeds(2), []api.Move{says(2, m)})
		a, b, e = x.evidence(x.bare(), moves...)
		shown(t, narrow, a, b, e, slices.Concat(layer[0][:], layer[1][:]), slices.Concat(m.Hashes[0][:], m.Hashes[1][:]))
		// Where the metainfo itself tells the false row no answer was taken: 4, the contents are shown.
		false1 := x.m
		false1.Layers = []api.Layer{{Root: x.m.Files[0].Root, Hashes: m.Hashes}}
		text, e := meta.Print(narrow, false1)
		wants(t, "Print", e, api.OK)
		moves = slices.Concat(x.seeds(1), []api.Move{says(1, block2(0, blocks[0])), says(1, block2(1, blocks[1]))})
		a, b, e = x.evidence(text, moves...)
		u, v, f := proof.Collide(narrow, x.files[0], slices.Concat(blocks[0], blocks[1]))
		wants(t, "Collide", f, api.OK)
		shown(t, narrow, a, b, e, u, v)
	}
}

// P20.8, 3: it is the first answer that is unlike that counts, not the first one, and of the right file.
func TestFirstFalseRow(t *testing.T) {
	r := rand.New(rand.NewSource(92))
	found := 0
	for found < 5 {
		x := made(t, narrow, 128, content(r, 300), content(r, 128*17), content(r, 20))
		first, plan := x.plan(t, 0), x.plan(t, 1)
		if x.m.Files[0].Root == x.m.Files[1].Root {
			continue
		}
		c := &crowd{plain: &plain{x: x}, r: r}
		said := []api.Msg{x.proves(first[0]), x.proves(plan[0]), x.proves(plan[1]), x.proves(plan[2])}
		for _, i := range []int{2, 3} {
			said[i].Hashes = c.forge(plan[i-1], said[i].Hashes)
		}
		moves := x.seeds(1)
		for _, m := range said {
			moves = append(moves, says(1, m))
		}
		// The small file comes with another block of its digest, so that there is something to show.
		fake := twin(narrow, r, x.files[2])
		if c.fakes < 2 || fake == nil {
			continue
		}
		last := len(x.pieces) - 1
		moves = slices.Concat([]api.Move{join(2), sends(2, x.hello(), wire(x.field(last), plainly(api.MsgUnchoke))), says(2, block2(last, fake)), leave(2)}, moves)
		rep := x.run(t, x.bare(), moves...)
		if len(rep.Answers) != 4 || !slices.Equal(rep.Done, []bool{false, false, true}) {
			t.Fatalf("%d answers, done %v", len(rep.Answers), rep.Done)
		}
		layer, _ := tree.PieceLayer(narrow, 128, x.files[1])
		u, v, f := proof.Betray(narrow, 1, layer, plan[1], said[2].Hashes)
		wants(t, "Betray", f, api.OK)
		a, b, e := x.evidence(x.bare(), moves...)
		shown(t, narrow, a, b, e, u, v)
		// Without the other block nothing is shown, though two answers are false.
		moves[2] = says(2, block2(last, x.files[2]))
		if a, b, e := x.evidence(x.bare(), moves...); !nothing(a, b, e, api.ErrSame) {
			t.Fatalf("Evidence = %v, %v, %d", a, b, e)
		}
		// With the true answers it is the block that is shown.
		moves[2] = says(2, block2(last, fake))
		moves = slices.Delete(moves, 8, 10)
		a, b, e = x.evidence(x.bare(), moves...)
		shown(t, narrow, a, b, e, x.files[2], fake)
		found++
	}
}

// P20.8, 4: the first file in the order of the metainfo, whatever the order in which the files were handed in and came.
func TestFirstOtherFile(t *testing.T) {
	r := rand.New(rand.NewSource(93))
	sources := []api.Source{source("c", content(r, 60)), source("a", content(r, 30)), source("b", content(r, 50)), source("d", nil)}
	x, ok := build(narrow, 64, sources...)
	if !ok {
		t.Fatal("no torrent")
	}
	var fakes [3][]byte
	for i := range fakes {
		fakes[i] = twin(narrow, r, x.files[i])
	}
	moves := x.seeds(1)
	if a, b, e := x.evidence(x.text, moves...); !nothing(a, b, e, api.ErrSame) {
		t.Fatalf("nothing is there: %v, %v, %d", a, b, e)
	}
	moves = append(moves, says(1, block2(0, x.files[0])))
	if a, b, e := x.evidence(x.text, moves...); !nothing(a, b, e, api.ErrSame) {
		t.Fatalf("the first file is there: %v, %v, %d", a, b, e)
	}
	moves = append(moves, says(1, block2(2, fakes[2])))
	a, b, e := x.evidence(x.text, moves...)
	shown(t, narrow, a, b, e, x.files[2], fakes[2])
	moves = append(moves, says(1, block2(1, fakes[1])))
	a, b, e = x.evidence(x.text, moves...)
	shown(t, narrow, a, b, e, x.files[1], fakes[1])
	// What a crash took away isn't done any more.
	if a, b, e := x.evidence(x.text, append(moves, crash())...); !nothing(a, b, e, api.ErrSame) {
		t.Fatalf("behind a crash: %v, %v, %d", a, b, e)
	}
}

// plainEvidence is Evidence as the chapter's words have it, for a run that has started with the info dictionary that was made.
func (x *torrent) plainEvidence(t *testing.T, r api.Report) ([]byte, []byte, api.Errno) {
	t.Helper()
	other := -1
	for i := len(x.files) - 1; i >= 0; i-- {
		if r.Done[i] && !bytes.Equal(r.Files[i], x.files[i]) {
			other = i
		}
	}
	if other < 0 {
		return nil, nil, api.ErrSame
	}
	level, _ := tree.Height(x.pieceLen / x.sc.Block)
	for _, a := range r.Answers {
		i := slices.IndexFunc(x.m.Files, func(f api.File) bool { return f.Root == a.Query.Root && f.Len > x.pieceLen })
		layer, e := tree.PieceLayer(x.sc, x.pieceLen, x.files[i])
		wants(t, "PieceLayer", e, api.OK)
		if right, _ := proof.Prove(x.sc, level, layer, a.Query); !slices.Equal(right, a.Hashes) {
			return proof.Betray(x.sc, level, layer, a.Query, a.Hashes)
		}
	}
	return proof.Collide(x.sc, x.files[other], r.Files[other])
}

// P20.8, P20.9: random scripts, many of them with lies that can't be told from the truth.
func TestEvidenceRows(t *testing.T) {
	r := rand.New(rand.NewSource(94))
	seen := map[string]int{}
	for range 300 {
		x := randomTorrent(r)
		if x.sc.Width == 32 {
			x = randomTorrent(r)
		}
		likely := r.Intn(3)
		text := x.telling(func(int) bool { return r.Intn(2) < likely })
		c := crowdOf(r, plainRun(t, x, text, x.need()))
		c.play(r.Intn(400))
		u, v, f := x.plainEvidence(t, c.report())
		a, b, e := x.evidence(text, c.moves...)
		if e != f || !bytes.Equal(a, u) || !bytes.Equal(b, v) {
			t.Fatalf("Evidence = %v, %v, %d, want %v, %v, %d", a, b, e, u, v, f)
		}
		switch {
		case e == api.OK && !digest.Clash(x.sc, a, b):
			t.Fatalf("%v and %v have not one digest", a, b)
		case e != api.OK && e != api.ErrSame:
			t.Fatalf("Evidence = %d", e)
		case e == api.ErrSame:
			seen["same"]++
		case len(a) == 64 && bytes.Equal(a[1:32], make([]byte, 31)):
			seen["hashes"]++
		default:
			seen["blocks"]++
		}
	}
	if seen["same"] < 20 || seen["hashes"] < 5 || seen["blocks"] < 5 {
		t.Errorf("too tame: %v", seen)
	}
}
