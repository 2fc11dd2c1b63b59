package engine_test

import (
	"bytes"
	"math"
	"math/rand"
	"slices"
	"testing"

	"torrent/api"
	"torrent/digest"
	"torrent/engine"
	"torrent/proof"
	"torrent/tree"
)

// excused fails the test unless two texts of one digest can be shown: for an answer that isn't the true one, or for a file that is another one (P20.7).
func (x *torrent) excused(t *testing.T, r api.Report) {
	t.Helper()
	level, _ := tree.Height(x.pieceLen / x.sc.Block)
	for _, a := range r.Answers {
		for i, f := range x.m.Files {
			if f.Root != a.Query.Root || f.Len <= x.pieceLen {
				continue
			}
			layer, _ := tree.PieceLayer(x.sc, x.pieceLen, x.files[i])
			right, _ := proof.Prove(x.sc, level, layer, a.Query)
			if slices.Equal(right, a.Hashes) {
				break
			}
			u, v, e := proof.Betray(x.sc, level, layer, a.Query, a.Hashes)
			if e != api.OK || !digest.Clash(x.sc, u, v) {
				t.Fatalf("Betray = %v, %v, %d", u, v, e)
			}
			return
		}
	}
	for i, b := range x.files {
		if r.Done[i] && !bytes.Equal(r.Files[i], b) {
			u, v, e := proof.Collide(x.sc, b, r.Files[i])
			if e != api.OK || !digest.Clash(x.sc, u, v) {
				t.Fatalf("Collide = %v, %v, %d", u, v, e)
			}
			return
		}
	}
	t.Fatalf("nothing is to blame for this: %v, %d answers", r.Done, len(r.Answers))
}

// P20.6, P0.2, P0.8: the refusals, in their order, with nothing told beside them.
func TestShareRefused(t *testing.T) {
	good := []api.Source{source("a", []byte("abc"))}
	at := func(m api.Move) []api.Move { return []api.Move{tick(), m, tick()} }
	for _, c := range []struct {
		sc       api.Scale
		name     string
		pieceLen int
		files    []api.Source
		moves    []api.Move
		want     api.Errno
	}{
		{api.Scale{}, "", 0, nil, times(4097, api.Move{}), api.ErrScale},
		{own, "", 0, nil, times(4097, api.Move{}), api.ErrMoves},
		{own, "t", 64, good, times(4097, tick()), api.ErrMoves},
		{own, "", 0, nil, at(api.Move{}), api.ErrMove},
		{own, "t", 64, good, at(api.Move{Kind: -1}), api.ErrMove},
		{own, "t", 64, good, at(api.Move{Kind: 9}), api.ErrMove},
		{own, "t", 64, good, at(api.Move{Kind: math.MaxInt}), api.ErrMove},
		{own, "t", 64, good, at(join(0)), api.ErrMove},
		{own, "t", 64, good, at(join(-1)), api.ErrMove},
		{own, "t", 64, good, at(leave(0)), api.ErrMove},
		{own, "t", 64, good, at(leave(math.MinInt)), api.ErrMove},
		{own, "t", 64, good, at(sends(0)), api.ErrMove},
		{own, "", 0, nil, at(sends(-1)), api.ErrMove},
		{own, "", 96, nil, nil, api.ErrMetaPiece},
		{own, "", 64, nil, nil, api.ErrNameEmpty},
		{own, "t", 64, nil, nil, api.ErrMetaTree},
		{own, "t", 64, slices.Concat(good, good), nil, api.ErrPathTwice},
		{own, "t", 64, []api.Source{source("a/b", nil)}, at(carry()), api.ErrNameByte},
		{api.Scale{Block: 16384, Width: 32}, "t", 16384, []api.Source{source("a", make([]byte, 1<<22))}, nil, api.ErrSector},
	} {
		for _, bare := range []bool{false, true} {
			r, e := engine.Share(c.sc, c.name, c.pieceLen, c.files, bare, c.moves)
			if e != c.want || r.Start != api.OK || !isNothing(r) {
				t.Errorf("Share(%v, %q, %d, %d files, %d moves) = %v, %d, want %d", c.sc, c.name, c.pieceLen, len(c.files), len(c.moves), r, e, c.want)
			}
		}
	}
	if r, e := engine.Share(own, "t", 64, good, false, times(4096, syncs())); e != api.OK || len(r.Acts) < 4097 {
		t.Errorf("4096 moves: %d elements, %d", len(r.Acts), e)
	}
	// 0 and below are no peers of a move that names none
	others := []api.Move{tick(), syncs(), crash(), fuse(3), carry()}
	for i := range others {
		others[i].Peer = -i
	}
	if _, e := engine.Share(own, "t", 64, good, false, others); e != api.OK {
		t.Errorf("Share = %d", e)
	}
}

var (
	weWant = []byte{0, 0, 0, 1, 2}
	weIdle = []byte{0, 0, 0, 1, 3}
	weAsk  = []byte{0, 0, 0, 13, 6, 0, 0, 0, 0, 0, 0, 0, 0, 0, 0, 0, 3}
	weHave = []byte{0, 0, 0, 5, 4, 0, 0, 0, 0}
	alive  = []byte{0, 0, 0, 0}
)

// P20.6: step by step, how a file of one block comes over the wire.
func TestWire(t *testing.T) {
	x := abc(t)
	moves := slices.Concat(times(3, carry()), times(4, tick()), times(2, carry()), []api.Move{tick(), carry(), carry()})
	r, e := x.share(false, moves...)
	wants(t, "Share", e, api.OK)
	acts(t, "the start and the laying", r.Acts[0], to(0, x.us()))
	// the giver's handshake and its bitfield come in one
	acts(t, "carried once", r.Acts[1], to(0, weWant))
	for i := 2; i <= 7; i++ {
		acts(t, "nothing for the taker", r.Acts[i])
	}
	// at the tick 4 the giver has let it ask
	acts(t, "carried again", r.Acts[8], to(0, weAsk))
	acts(t, "the giver is asked", r.Acts[9])
	acts(t, "the giver's tick", r.Acts[10])
	acts(t, "the block", r.Acts[11], gotPiece(0, 0), to(0, weHave), gotFile(0), to(0, weIdle))
	acts(t, "nothing more", r.Acts[12])
	if len(r.Acts) != 13 {
		t.Errorf("%d elements: there is a calm, though all files are complete", len(r.Acts))
	}
	x.whole(t, r)
}

// P20.6: without moves all comes in the calm, round by round.
func TestCalmRounds(t *testing.T) {
	x := abc(t)
	r, e := x.share(false)
	wants(t, "Share", e, api.OK)
	want := [][][]api.Act{
		{to(0, x.us())}, {to(0, weWant)}, {}, {}, {to(0, weAsk)},
		{gotPiece(0, 0), to(0, weHave), gotFile(0), to(0, weIdle)},
	}
	if len(r.Acts) != len(want) {
		t.Fatalf("%d elements, wanted %d", len(r.Acts), len(want))
	}
	for i, w := range want {
		acts(t, "a round", r.Acts[i], w...)
	}
	x.whole(t, r)
	// of empty files nothing is to come
	x = made(t, own, 64, nil, nil)
	r, e = x.share(true)
	if e != api.OK || len(r.Acts) != 1 {
		t.Fatalf("Share = %v, %d", r, e)
	}
	acts(t, "the start", r.Acts[0], gotFile(0), gotFile(1), to(0, x.us()))
	x.whole(t, r)
}

// P20.6: the taker closes the wire; at the next tick it is laid anew, ahead of the ticks.
func TestTakerCuts(t *testing.T) {
	x := abc(t)
	r, e := x.share(false, slices.Concat(times(24, tick()), []api.Move{carry(), syncs(), tick(), carry()})...)
	wants(t, "Share", e, api.OK)
	for i := 1; i < 24; i++ {
		acts(t, "a tick", r.Acts[i])
	}
	acts(t, "the tick 24", r.Acts[24], drop(0, api.ErrQuiet))
	acts(t, "nothing is carried", r.Acts[25])
	acts(t, "nor synced", r.Acts[26])
	acts(t, "the tick 25", r.Acts[27], to(0, x.us()))
	acts(t, "carried", r.Acts[28], to(0, weWant))
	x.whole(t, r)
}

// P20.6: what the taker sent ahead of closing the wire, in the same call, doesn't wait, either.
func TestTakerCutsBehindWords(t *testing.T) {
	x := made(t, own, 64, some(200))
	cancels := func(l []api.Act) int { return count(told(l, 0), api.MsgCancel) }
	// Four blocks are asked for at the tick 4: at the tick 12 they are late, which are four strikes.
	moves := slices.Concat(times(2, carry()), times(4, tick()), []api.Move{carry()}, times(8, tick()), []api.Move{carry(), tick(), carry()})
	r, e := x.share(false, moves...)
	wants(t, "Share", e, api.OK)
	if l := r.Acts[15]; cancels(l) != 4 || !sameAct(l[len(l)-1], drop(0, api.ErrSlow)[0]) {
		t.Fatalf("the tick 12: %v", l)
	}
	acts(t, "nothing is carried", r.Acts[16])
	acts(t, "the tick 13", r.Acts[17], to(0, x.us()))
	// Were the cancels ahead of the handshake, the giver would break off.
	acts(t, "carried", r.Acts[18], to(0, weWant))
	x.whole(t, r)
}

// P20.6: the giver closes the wire: the taker only sees that it is gone.
func TestGiverCuts(t *testing.T) {
	x := abc(t)
	// The giver hears the taker at the tick 0 for the last time, the taker the giver at the tick 4.
	moves := slices.Concat(times(2, carry()), times(4, tick()), []api.Move{carry()}, times(20, tick()), []api.Move{carry(), tick(), carry()})
	r, e := x.share(false, moves...)
	wants(t, "Share", e, api.OK)
	cancel := slices.Clone(weAsk)
	cancel[4] = api.MsgCancel
	acts(t, "the tick 4", r.Acts[7], to(0, weAsk))
	acts(t, "the tick 8", r.Acts[11], to(0, alive))
	acts(t, "the tick 12", r.Acts[15], to(0, cancel, weAsk))
	acts(t, "the tick 24", r.Acts[27], to(0, alive))
	acts(t, "nothing is carried", r.Acts[28])
	acts(t, "the tick 25", r.Acts[29], to(0, x.us()))
	acts(t, "carried", r.Acts[30], to(0, weWant))
	x.whole(t, r)
}

// P20.6: a taker that has no room doesn't let the wire be laid, at each tick anew, until it has.
func TestCrowdedWire(t *testing.T) {
	x := abc(t)
	moves := times(24, tick())
	for i := range 8 {
		moves = append(moves, join(1+i))
	}
	moves = slices.Concat(moves, times(2, tick()), []api.Move{carry(), leave(3), carry(), tick(), carry()})
	r, e := x.share(false, moves...)
	wants(t, "Share", e, api.OK)
	acts(t, "the tick 24", r.Acts[24], drop(0, api.ErrQuiet))
	acts(t, "the last one that came", r.Acts[32], to(8, x.us()))
	acts(t, "the tick 25", r.Acts[33], drop(0, api.ErrCrowd))
	acts(t, "the tick 26", r.Acts[34], drop(0, api.ErrCrowd))
	acts(t, "nothing is carried", slices.Concat(r.Acts[35:38]...))
	acts(t, "the tick 27", r.Acts[38], to(0, x.us()))
	acts(t, "carried", r.Acts[39], to(0, weWant))
	x.whole(t, r)
}

// P20.6: behind the taker's crash the wire is laid at once, whether it was cut or not, and holds nothing of what it held.
func TestCrashAtTheWire(t *testing.T) {
	x := abc(t)
	for _, before := range [][]api.Move{nil, {carry()}, times(2, carry()), times(7, tick()), times(24, tick()), times(25, tick())} {
		moves := slices.Concat(before, []api.Move{crash(), carry(), carry()})
		r, e := x.share(false, moves...)
		wants(t, "Share", e, api.OK)
		n := len(before)
		acts(t, "the crash", r.Acts[n+1], to(0, x.us()))
		acts(t, "carried", r.Acts[n+2], to(0, weWant))
		acts(t, "carried again", r.Acts[n+3])
		x.whole(t, r)
	}
	// with what was synced
	moves := slices.Concat(x.fetched(1), []api.Move{syncs(), crash()})
	r, e := x.share(false, moves...)
	wants(t, "Share", e, api.OK)
	acts(t, "the crash", r.Acts[5], gotPiece(0, 0), gotFile(0), to(0, x.us()))
	if len(r.Acts) != 6 {
		t.Errorf("%d elements", len(r.Acts))
	}
	// a fuse is the taker's, too
	moves = slices.Concat(x.fetched(1), []api.Move{fuse(0), syncs(), crash()})
	r, e = x.share(false, moves...)
	wants(t, "Share", e, api.OK)
	acts(t, "the crash", r.Acts[6], to(0, x.us()))
	x.whole(t, r)
}

// P20.6: a round of the calm carries at most Hops times; what waits then waits for the next one.
func TestHops(t *testing.T) {
	x := made(t, own, 64, some(64*8*100))
	r, e := x.share(true)
	wants(t, "Share", e, api.OK)
	x.whole(t, r)
	// In the first round the taker's handshake is carried, and one query with each carrying from the second one on.
	for i, want := range []int{0, 64, 36, 0} {
		n := count(told(r.Acts[i], 0), api.MsgHashRequest)
		if n != want {
			t.Errorf("element %d: %d queries, wanted %d", i, n, want)
		}
	}
	if len(r.Answers) != 100 {
		t.Errorf("%d answers", len(r.Answers))
	}
}

// P20.6: who lies doesn't keep the files away, nor does who is silent in every place that there is.
func TestOthersAtTheTaker(t *testing.T) {
	x := made(t, own, 128, some(700), some(10))
	var moves []api.Move
	for i := 1; i <= 7; i++ {
		moves = append(moves, x.seeds(i)...)
	}
	lie := x.block(0, 0)
	lie.Data = make([]byte, 64)
	moves = append(moves, says(1, lie, lie), says(2, lie))
	for _, bare := range []bool{false, true} {
		p := plainShare(t, x, bare)
		for _, m := range moves {
			p.move(m)
		}
		p.calm()
		r, e := x.share(bare, moves...)
		p.same("Share", r, e)
		x.whole(t, r)
		if bare != (len(r.Answers) > 0) {
			t.Errorf("%d answers", len(r.Answers))
		}
	}
}

// P20.6: a taker that has banned the giver is at the end of its rounds some time, and what it has is told.
func TestCalmEnds(t *testing.T) {
	sc := api.Scale{Block: 64, Width: 1}
	r := rand.New(rand.NewSource(81))
	for range 200 {
		x := made(t, sc, 64, content(r, 128))
		q := x.plan(t, 0)[0]
		c := &crowd{plain: &plain{x: x}, r: r}
		m := x.proves(q)
		if m.Hashes = c.forge(q, m.Hashes); c.fakes == 0 {
			continue
		}
		// The false row is taken ahead of the giver's.
		rep, e := x.share(true, slices.Concat(x.seeds(1), []api.Move{says(1, m), leave(1)})...)
		wants(t, "Share", e, api.OK)
		if x.isWhole(rep) {
			continue
		}
		x.excused(t, rep)
		calm, _ := engine.Calm(sc, x.text)
		if len(rep.Acts) != 1+4+calm {
			t.Fatalf("%d elements", len(rep.Acts))
		}
		last := rep.Acts[len(rep.Acts)-1]
		if !slices.ContainsFunc(last, func(a api.Act) bool { return a.Kind == api.ActDrop && a.Peer == 0 && a.Why == api.ErrBanned }) {
			t.Fatalf("the last round: %v", last)
		}
		return
	}
	t.Error("too tame")
}
