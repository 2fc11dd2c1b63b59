package engine_test

import (
	"bytes"
	"math"
	"math/rand"
	"slices"
	"strconv"
	"testing"

	"torrent/api"
	"torrent/engine"
)

// spare fills the spare room behind a list.
func spare[T any](l []T, with T) {
	for i := range l[len(l):cap(l)] {
		l[len(l):cap(l)][i] = with
	}
}

// spoil writes over a list, and over its spare room.
func spoil[T any](l []T, with T) {
	for i := range l {
		l[i] = with
	}
	spare(l, with)
}

// roomy is a copy of a list with spare room behind it.
func roomy[T any](l []T, with T) []T {
	c := append(make([]T, 0, len(l)+3), l...)
	spare(c, with)
	return c
}

// roomyMoves is a copy of moves, all its lists with spare room.
func roomyMoves(l []api.Move) []api.Move {
	c := roomy(l, api.Move{Kind: 99})
	for i := range l {
		c[i].Data = roomy(l[i].Data, 0xee)
		c[i].Keep = roomy(l[i].Keep, true)
	}
	return c
}

// roomySources is a copy of files, all its lists with spare room.
func roomySources(l []api.Source) []api.Source {
	c := roomy(l, api.Source{Path: []string{"z"}})
	for i := range l {
		c[i].Path = roomy(l[i].Path, "y")
		c[i].Data = roomy(l[i].Data, 0xee)
	}
	return c
}

func sameMove(a, b api.Move) bool {
	return a.Kind == b.Kind && a.Peer == b.Peer && a.Torn == b.Torn && a.Cut == b.Cut && bytes.Equal(a.Data, b.Data) && slices.Equal(a.Keep, b.Keep)
}

func sameSource(a, b api.Source) bool {
	return slices.Equal(a.Path, b.Path) && bytes.Equal(a.Data, b.Data)
}

// given are arguments that may be spoiled.
type given struct {
	text  []byte
	files []api.Source
	moves []api.Move
}

// anew is a copy of arguments, with spare room everywhere.
func (g given) anew() given {
	return given{roomy(g.text, 0xee), roomySources(g.files), roomyMoves(g.moves)}
}

// same tells whether arguments, spare room included, are as anew made them.
func (g given) same(o given) bool {
	full := func(x given) given {
		x.text, x.files, x.moves = x.text[:cap(x.text)], slices.Clone(x.files[:cap(x.files)]), slices.Clone(x.moves[:cap(x.moves)])
		for i, f := range x.files {
			x.files[i] = api.Source{Path: f.Path[:cap(f.Path)], Data: f.Data[:cap(f.Data)]}
		}
		for i := range x.moves {
			m := &x.moves[i]
			m.Data, m.Keep = m.Data[:cap(m.Data)], m.Keep[:cap(m.Keep)]
		}
		return x
	}
	g, o = full(g), full(o)
	return bytes.Equal(g.text, o.text) && slices.EqualFunc(g.files, o.files, sameSource) && slices.EqualFunc(g.moves, o.moves, sameMove)
}

// spoil writes over arguments.
func (g given) spoil() {
	spoil(g.text, 0xdd)
	for _, f := range g.files {
		spoil(f.Path, "x")
		spoil(f.Data, 0xdd)
	}
	for _, m := range g.moves {
		spoil(m.Data, 0xdd)
		spoil(m.Keep, false)
	}
	spoil(g.files, api.Source{})
	spoil(g.moves, api.Move{})
}

// deep is a copy of a report.
func deep(r api.Report) api.Report {
	c := api.Report{Start: r.Start, Have: bytes.Clone(r.Have), Done: slices.Clone(r.Done)}
	for _, l := range r.Acts {
		l = slices.Clone(l)
		for i := range l {
			l[i].Data = bytes.Clone(l[i].Data)
		}
		c.Acts = append(c.Acts, l)
	}
	for _, b := range r.Files {
		c.Files = append(c.Files, bytes.Clone(b))
	}
	for _, a := range r.Answers {
		c.Answers = append(c.Answers, api.Answer{Query: a.Query, Hashes: slices.Clone(a.Hashes)})
	}
	return c
}

// room fills the spare room of all lists of a report.
func room(r api.Report) {
	for _, l := range r.Acts {
		for _, a := range l {
			spare(a.Data, 0xee)
		}
		spare(l, api.Act{Kind: 77})
	}
	spare(r.Acts, []api.Act{{Kind: 78}})
	spare(r.Have, 0xee)
	spare(r.Done, true)
	for _, b := range r.Files {
		spare(b, 0xee)
	}
	spare(r.Files, []byte{1})
	for _, a := range r.Answers {
		spare(a.Hashes, api.Hash{0xee})
	}
	spare(r.Answers, api.Answer{})
}

// overwrite writes over the innermost lists of a report one by one, and sees that each time the others stay.
func overwrite(t *testing.T, r api.Report) {
	t.Helper()
	want := deep(r)
	check := func(what string) {
		t.Helper()
		if !sameReport(r, want) {
			t.Fatalf("%s share memory with others", what)
		}
	}
	for i, l := range r.Acts {
		for k, a := range l {
			spoil(a.Data, 0xdd)
			spoil(want.Acts[i][k].Data, 0xdd)
			check("the bytes of an act")
		}
		spoil(l, api.Act{Kind: 77})
		spoil(want.Acts[i], api.Act{Kind: 77})
		check("acts")
	}
	spoil(r.Have, 0xdd)
	spoil(want.Have, 0xdd)
	check("the bits")
	for i, b := range r.Files {
		spoil(b, 0xdd)
		spoil(want.Files[i], 0xdd)
		check("the bytes of a file")
	}
	for i, a := range r.Answers {
		spoil(a.Hashes, api.Hash{0xdd})
		spoil(want.Answers[i].Hashes, api.Hash{0xdd})
		check("the hashes of an answer")
	}
}

// P0.3, P0.4, P0.5: arguments are neither changed nor kept, answers are new memory, and what was answered before is nothing to a call.
func TestMemory(t *testing.T) {
	r := rand.New(rand.NewSource(101))
	for i := range 40 {
		x := randomTorrent(r)
		shares, bare := i%2 == 0, r.Intn(2) == 0
		var c *crowd
		text := x.text
		if bare {
			text = x.bare()
		}
		if shares {
			c = crowdOf(r, plainShare(t, x, bare))
		} else {
			c = crowdOf(r, plainRun(t, x, text, x.need()))
		}
		c.play(r.Intn(150))
		call := func(g given) (api.Report, api.Errno) {
			if shares {
				return engine.Share(x.sc, x.name, x.pieceLen, g.files, bare, g.moves)
			}
			return engine.Run(x.sc, g.text, x.info, x.need(), g.moves)
		}
		first := given{text, x.sources, c.moves}
		g, was := first.anew(), first.anew()
		rep, e := call(g)
		wants(t, "the call", e, api.OK)
		if !g.same(was) {
			t.Fatal("an argument has changed")
		}
		want := deep(rep)
		g.spoil()
		room(rep)
		if !sameReport(rep, want) {
			t.Fatal("lists of a report share memory with one another, or with an argument")
		}
		overwrite(t, rep)
		if again, e := call(first.anew()); e != api.OK || !sameReport(again, want) {
			t.Fatal("a second call answers otherwise")
		}
	}
}

// P0.4, P0.5: the two texts of Evidence are no part of an argument, nor of one another.
func TestEvidenceMemory(t *testing.T) {
	r := rand.New(rand.NewSource(102))
	seen := 0
	for range 150 {
		x := randomTorrent(r)
		if x.sc.Width == 32 {
			continue
		}
		c := crowdOf(r, plainRun(t, x, x.bare(), x.need()))
		c.play(200)
		first := given{x.bare(), x.sources, c.moves}
		g, was := first.anew(), first.anew()
		a, b, e := engine.Evidence(x.sc, x.name, x.pieceLen, g.files, g.text, x.need(), g.moves)
		if e == api.OK {
			seen++
		}
		u, v := bytes.Clone(a), bytes.Clone(b)
		spoil(a, 0xdd)
		spare(b, 0xdd)
		if !g.same(was) || !bytes.Equal(b, v) {
			t.Fatal("the texts share memory with each other, or with an argument")
		}
		spoil(b, 0xdd)
		if !g.same(was) {
			t.Fatal("an argument has changed")
		}
		a, b, f := engine.Evidence(x.sc, x.name, x.pieceLen, g.files, g.text, x.need(), g.moves)
		if e != f || !bytes.Equal(a, u) || !bytes.Equal(b, v) {
			t.Fatal("a second call answers otherwise")
		}
	}
	if seen < 5 {
		t.Errorf("too tame: %d", seen)
	}
}

// P0.4, P0.5: so is it with the texts of two info dictionaries.
func TestInfoMemory(t *testing.T) {
	x := made(t, narrow, 64, []byte("abc"))
	for i := range 2000 {
		y, ok := build(narrow, 64, source(strconv.Itoa(i), []byte("abc")))
		if !ok || y.info != x.info || bytes.Equal(y.text, x.text) {
			continue
		}
		text := roomy(y.text, 0xee)
		was := roomy(y.text, 0xee)
		a, b, e := x.evidence(text)
		wants(t, "Evidence", e, api.OK)
		other := bytes.Clone(b)
		spoil(a, 0xdd)
		if !bytes.Equal(text[:cap(text)], was[:cap(was)]) || !bytes.Equal(b, other) {
			t.Error("the first text is a part of what was handed in, or of the second one")
		}
		return
	}
	t.Error("none was found")
}

// P0.1: the strangest arguments.
func TestStrange(t *testing.T) {
	x := abc(t)
	ints := []int{math.MinInt, -1, 0, 1, 7, 64, 65, math.MaxInt}
	r := rand.New(rand.NewSource(103))
	pick := func() int { return ints[r.Intn(len(ints))] }
	for range 2000 {
		sc := api.Scale{Block: pick(), Width: pick()}
		if r.Intn(4) > 0 {
			sc = own
		}
		text := bytes.Clone(x.text)
		if r.Intn(2) == 0 {
			text[r.Intn(len(text))] = byte(r.Intn(256))
		}
		var moves []api.Move
		for range r.Intn(6) {
			kind := 1 + r.Intn(8)
			if r.Intn(20) == 0 {
				kind = pick()
			}
			moves = append(moves, api.Move{Kind: kind, Peer: pick(), Data: content(r, r.Intn(80)), Keep: make([]bool, r.Intn(4)), Torn: pick(), Cut: pick()})
		}
		files := x.sources
		if r.Intn(6) == 0 {
			files = []api.Source{{Path: make([]string, r.Intn(3))}}
		}
		name, pieceLen := []string{"t", "", "\xff", "a/b"}[r.Intn(4)], []int{64, 128, pick()}[r.Intn(3)]
		engine.Sectors(sc, text)
		engine.Calm(sc, text)
		if rep, e := engine.Run(sc, text, x.info, pick(), moves); e != api.OK && (rep.Start != api.OK || !isNothing(rep)) {
			t.Fatalf("Run = %v, %d", rep, e)
		}
		if rep, e := engine.Share(sc, name, pieceLen, files, r.Intn(2) == 0, moves); e != api.OK && (rep.Start != api.OK || !isNothing(rep)) {
			t.Fatalf("Share = %v, %d", rep, e)
		}
		if a, b, e := engine.Evidence(sc, name, pieceLen, files, text, pick(), moves); e != api.OK && len(a)+len(b) > 0 {
			t.Fatalf("Evidence = %v, %v, %d", a, b, e)
		}
	}
}
