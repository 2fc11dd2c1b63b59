package engine_test

import (
	"maps"
	"math/rand"
	"slices"
	"testing"

	"torrent/api"
	"torrent/create"
	"torrent/engine"
	"torrent/meta"
)

// ledger goes through a report and knows what had to be there behind its crashes.
type ledger struct {
	t     *testing.T
	known []bool // whose hashes the metainfo tells
	had   map[int]int
	safe  map[int]int // had when the last sync ended that counts
	owed  map[int]int // had when it ended, and to be had again without a block being asked for
	fused bool
	kept  int // how many pieces were found again behind a crash at once,
	again int // and how many when their hashes came
}

func ledgerOf(t *testing.T, x *torrent, text []byte) *ledger {
	t.Helper()
	m, e := meta.Parse(x.sc, text)
	wants(t, "Parse", e, api.OK)
	list, e := create.List(x.sc, m)
	wants(t, "List", e, api.OK)
	l := &ledger{t: t, had: map[int]int{}, safe: map[int]int{}, owed: map[int]int{}}
	for _, p := range list {
		l.known = append(l.known, p.Known)
	}
	return l
}

// move takes a move and its acts.
func (l *ledger) move(m api.Move, acts []api.Act) {
	l.t.Helper()
	switch m.Kind {
	case api.MoveFuse:
		l.fused = l.fused || m.Cut >= 0
	case api.MoveCrash:
		l.crash(acts)
		return
	}
	l.read(acts)
	if m.Kind == api.MoveSync && !l.fused {
		l.safe = maps.Clone(l.had)
	}
}

// crash takes the acts of a start behind a crash.
func (l *ledger) crash(acts []api.Act) {
	l.t.Helper()
	clear(l.had)
	clear(l.owed)
	l.fused = false
	for _, a := range acts {
		if a.Kind == api.ActPiece {
			l.had[a.Piece] = 1
		}
	}
	for i := range l.safe {
		switch {
		case l.known[i] && l.had[i] == 0:
			l.t.Fatalf("the piece %d was had and synced, and is not had behind the crash", i)
		case l.known[i]:
			l.kept++
		default:
			l.owed[i] = 1
		}
	}
}

// read takes acts that are none of a start's.
func (l *ledger) read(acts []api.Act) {
	l.t.Helper()
	for _, a := range acts {
		switch a.Kind {
		case api.ActPiece:
			l.had[a.Piece] = 1
			l.again += l.owed[a.Piece]
			delete(l.owed, a.Piece)
		case api.ActSend:
			for _, m := range told([]api.Act{a}, a.Peer) {
				if m.Kind == api.MsgRequest && l.owed[m.Index] == 1 {
					l.t.Fatalf("the piece %d was had and synced, and is asked for again", m.Index)
				}
			}
		}
	}
}

// P20.3: what was had and synced is had behind a crash: at once, or as soon as its hash is known.
func TestCrashLeavesWhatWasSynced(t *testing.T) {
	r := rand.New(rand.NewSource(71))
	kept, again := 0, 0
	for range 120 {
		x := randomTorrent(r)
		if x.sc.Width < 32 { // another hash may be taken there
			continue
		}
		likely := r.Intn(3)
		text := x.telling(func(int) bool { return r.Intn(2) < likely })
		c := crowdOf(r, plainRun(t, x, text, x.need()))
		c.play(r.Intn(600))
		rep := x.run(t, text, c.moves...)
		l := ledgerOf(t, x, text)
		l.read(rep.Acts[0])
		for i, m := range c.moves {
			l.move(m, rep.Acts[i+1])
		}
		kept += l.kept
		again += l.again
	}
	for range 80 {
		x := randomTorrent(r)
		if x.sc.Width < 32 {
			continue
		}
		c := crowdOf(r, plainShare(t, x, true))
		c.play(r.Intn(400))
		rep, e := x.share(true, c.moves...)
		wants(t, "Share", e, api.OK)
		l := ledgerOf(t, x, x.bare())
		l.read(rep.Acts[0])
		for i, m := range c.moves {
			l.move(m, rep.Acts[i+1])
		}
		l.read(slices.Concat(rep.Acts[len(c.moves)+1:]...))
		if len(l.owed) > 0 {
			t.Fatalf("%v were had and synced, and are not had in the end", l.owed)
		}
		kept += l.kept
		again += l.again
	}
	if kept < 100 || again < 100 {
		t.Errorf("too tame: %d, %d", kept, again)
	}
}

// P20.3: a piece whose hash the metainfo doesn't tell is there again with its hash, in the same move, and nobody is asked for its blocks.
func TestFoundAgainByItsHash(t *testing.T) {
	x := made(t, own, 64, some(150))
	q := x.proves(x.plan(t, 0)[0])
	one := slices.Concat(x.seeds(1), []api.Move{says(1, q), says(1, x.block(1, 0)), syncs(), says(1, x.block(2, 0)), crash()}, x.seeds(2), []api.Move{says(2, q)})
	r := x.run(t, x.bare(), one...)
	n := len(r.Acts)
	acts(t, "the new start", r.Acts[n-4])
	have := wire(api.Msg{Kind: api.MsgHave, Index: 1})
	ask := func(piece, n int) []byte { return wire(api.Msg{Kind: api.MsgRequest, Index: piece, Length: n}) }
	acts(t, "the hashes", r.Acts[n-1], gotPiece(1, 0), to(2, have, ask(0, 64), ask(2, 22)))
	if !slices.Equal(r.Have, []byte{64}) {
		t.Errorf("Have = %v", r.Have)
	}
}

// P20.4: the number of sectors is nothing to a run, as long as there are enough.
func TestSectorsAreNothingToIt(t *testing.T) {
	x := made(t, own, 64, some(150), []byte("abc"))
	moves := slices.Concat(x.fetched(1), []api.Move{fuse(5), syncs(), crash(true, true), tick()}, x.fetched(2), []api.Move{crash(true, false, true)})
	want := x.run(t, x.text, moves...)
	for _, n := range []int{x.need() + 1, x.need() + 7, 1000, api.MaxSectors} {
		if r, e := engine.Run(x.sc, x.text, x.info, n, moves); e != api.OK || !sameReport(r, want) {
			t.Errorf("with %d sectors: %v, %d\nwith just enough: %v", n, r, e, want)
		}
	}
}
