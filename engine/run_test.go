package engine_test

import (
	"math"
	"slices"
	"testing"

	"torrent/api"
	"torrent/engine"
	"torrent/proof"
)

// P20.2, P0.2, P0.8: the refusals, in their order, with nothing told beside them.
func TestRunRefused(t *testing.T) {
	x := abc(t)
	bad := func(kind int) []api.Move { return []api.Move{tick(), {Kind: kind}} }
	for _, c := range []struct {
		sc      api.Scale
		sectors int
		moves   []api.Move
		want    api.Errno
	}{
		{api.Scale{}, 0, times(4097, api.Move{}), api.ErrScale},
		{api.Scale{Block: 64}, 6, nil, api.ErrScale},
		{own, 0, times(4097, api.Move{}), api.ErrMoves},
		{own, 6, times(4097, tick()), api.ErrMoves},
		{own, 0, bad(0), api.ErrMove},
		{own, 6, bad(-1), api.ErrMove},
		{own, 6, bad(math.MinInt), api.ErrMove},
		{own, 6, bad(math.MaxInt), api.ErrMove},
		{own, 6, bad(api.MoveWire), api.ErrMove},
		{own, 6, slices.Concat(bad(9), times(4000, tick())), api.ErrMove},
		{own, 0, []api.Move{tick()}, api.ErrSector},
		{own, -1, nil, api.ErrSector},
		{own, math.MinInt, nil, api.ErrSector},
		{own, 65537, nil, api.ErrSector},
		{own, math.MaxInt, nil, api.ErrSector},
	} {
		r, e := engine.Run(c.sc, x.text, x.info, c.sectors, c.moves)
		if e != c.want || r.Start != api.OK || !isNothing(r) {
			t.Errorf("Run(%v, %d, %d moves) = %v, %d, want %d", c.sc, c.sectors, len(c.moves), r, e, c.want)
		}
		if _, e := engine.Run(c.sc, nil, api.Hash{}, c.sectors, c.moves); e != c.want {
			t.Errorf("Run(%v, no text, %d) = %d, want %d", c.sc, c.sectors, e, c.want)
		}
	}
	if r, e := engine.Run(own, x.text, x.info, 6, times(4096, tick())); e != api.OK || len(r.Acts) != 4097 {
		t.Errorf("4096 moves: %d elements, %d", len(r.Acts), e)
	}
}

// P20.2: a start that fails is told, and nothing else.
func TestRunDoesNotStart(t *testing.T) {
	x := abc(t)
	other := api.Hash{1}
	for _, c := range []struct {
		text    []byte
		info    api.Hash
		sectors int
		want    api.Errno
	}{
		{nil, x.info, 6, api.ErrTextEnd},
		{[]byte("i0e"), other, 1, api.ErrMetaShape},
		{x.text, other, 1, api.ErrWrong},
		{x.text, x.info, 5, api.ErrStoreDisk},
		{x.text, x.info, 1, api.ErrStoreDisk},
	} {
		r, e := engine.Run(own, c.text, c.info, c.sectors, x.fetched(1))
		if e != api.OK || r.Start != c.want || !isNothing(r) {
			t.Errorf("Run(%q, %d) = %v, %d, want %d", c.text, c.sectors, r, e, c.want)
		}
	}
}

// P20.2: the report has an element for the start and one for each move, and tells what stands in the end.
func TestReport(t *testing.T) {
	x := made(t, own, 64, []byte("abc"), nil, some(130))
	r := x.run(t, x.text)
	acts(t, "start", r.Acts[0], gotFile(1))
	if !slices.Equal(r.Have, []byte{0}) || !slices.Equal(r.Done, []bool{false, true, false}) || len(r.Files) != 3 || len(r.Files[0])+len(r.Files[1])+len(r.Files[2]) != 0 || len(r.Answers) != 0 {
		t.Fatalf("report %v", r)
	}
	all := x.fetched(3)
	for n := range len(all) + 1 {
		r := x.run(t, x.text, all[:n]...)
		had := max(0, n-2)
		if want := []byte{byte(0xf0 << (4 - had))}; !slices.Equal(r.Have, want) {
			t.Fatalf("behind %d moves Have = %v, want %v", n, r.Have, want)
		}
		for i, done := range []bool{had >= 1, true, had >= 4} {
			want := ""
			if done {
				want = string(x.files[i])
			}
			if r.Done[i] != done || string(r.Files[i]) != want {
				t.Fatalf("behind %d moves: file %d is %v, %q", n, i, r.Done[i], r.Files[i])
			}
		}
	}
	r = x.run(t, x.text, all...)
	acts(t, "join", r.Acts[1], to(3, x.us()))
	have := func(piece int) []byte { return wire(api.Msg{Kind: api.MsgHave, Index: piece}) }
	acts(t, "first", r.Acts[3], gotPiece(0, 0), to(3, have(0)), gotFile(0))
	acts(t, "second", r.Acts[4], gotPiece(1, 2), to(3, have(1)))
	acts(t, "last", r.Acts[6], gotPiece(3, 2), to(3, have(3)), gotFile(2), to(3, []byte{0, 0, 0, 1, 3}))
}

// P20.2: what the single moves do; the fields that a move's kind doesn't name are nothing to it.
func TestMoves(t *testing.T) {
	x := made(t, own, 64, some(300))
	moves := slices.Concat(
		[]api.Move{says(1, plainly(api.MsgUnchoke)), leave(1), join(-1), join(math.MinInt)},
		x.seeds(1), []api.Move{join(1), says(1, x.block(0, 0)), syncs(), tick(), leave(1), says(1, x.block(1, 0)), fuse(-4)},
		x.seeds(0), []api.Move{says(0, x.block(1, 0)), crash(), says(0, x.block(2, 0)), join(0), fuse(0), syncs(), crash(true)})
	r := x.run(t, x.text, moves...)
	for _, i := range []int{1, 2, 3, 4, 7, 9, 10, 11, 12, 13, 18, 20, 21} {
		acts(t, "a move that changes nothing", r.Acts[i])
	}
	acts(t, "join", r.Acts[5], to(1, x.us()))
	acts(t, "a crash", r.Acts[17], gotPiece(0, 0))
	acts(t, "a peer comes again", r.Acts[19], to(0, x.us()))
	acts(t, "a second crash", r.Acts[22], gotPiece(0, 0))
	junk := slices.Clone(moves)
	for i := range junk {
		m := &junk[i]
		switch m.Kind {
		case api.MoveJoin, api.MoveLeave:
			m.Data, m.Keep, m.Torn, m.Cut = []byte{1}, []bool{true}, 3, 7
		case api.MoveBytes:
			m.Keep, m.Torn, m.Cut = []bool{true}, math.MinInt, math.MaxInt
		case api.MoveTick, api.MoveSync:
			m.Peer, m.Data, m.Keep, m.Torn, m.Cut = 1, []byte{1}, []bool{true}, 3, 7
		case api.MoveCrash:
			m.Peer, m.Data = 1, []byte{1}
		case api.MoveFuse:
			m.Peer, m.Data, m.Keep, m.Torn = -5, []byte{1}, []bool{true}, 3
		}
	}
	if !sameReport(r, x.run(t, x.text, junk...)) {
		t.Error("a field that isn't named was looked at")
	}
}

// P20.2: which of the two unsynced writes, the block's and the claim's, a crash keeps.
func TestCrashKeeps(t *testing.T) {
	x := abc(t)
	for _, c := range []struct {
		keep      []bool
		torn, cut int
		want      bool
	}{
		{[]bool{true, true}, -1, 0, true},
		{[]bool{true, true, false, true}, -1, 0, true},
		{[]bool{true, true}, -1, 99, true},
		{[]bool{true}, -1, 0, false},
		{[]bool{false, true}, -1, 0, false},
		{nil, -1, 0, false},
		{[]bool{true, true}, 0, 0, false},  // the block is torn, and nothing of it left
		{[]bool{true, true}, 0, 2, false},  // two of its three bytes
		{[]bool{true, true}, 0, 3, true},   // all three
		{[]bool{false, true}, 0, 3, true},  // it is torn, whether it is to be kept or not
		{[]bool{true, true}, 1, 63, false}, // the claim is torn
		{[]bool{true}, 1, 64, true},
		{[]bool{true, true}, 1, 65, true}, // nothing is torn from here on
		{[]bool{true, true}, 1, -1, true},
		{[]bool{true}, 1, 65, false},
		{[]bool{true}, 1, -1, false},
		{[]bool{true, true}, 2, 10, true},
		{[]bool{true, true}, -2, 10, true},
		{[]bool{true, true}, math.MinInt, math.MaxInt, true},
		{[]bool{true, true}, math.MaxInt, math.MinInt, true},
		{[]bool{true, true}, 0, math.MinInt, true},
	} {
		m := api.Move{Kind: api.MoveCrash, Keep: c.keep, Torn: c.torn, Cut: c.cut}
		r := x.run(t, x.text, append(x.fetched(1), m)...)
		if r.Done[0] != c.want {
			t.Errorf("Keep %v, Torn %d, Cut %d: done is %v", c.keep, c.torn, c.cut, r.Done[0])
		}
		var found [][]api.Act
		if c.want {
			found = [][]api.Act{gotPiece(0, 0), gotFile(0)}
		}
		acts(t, "the new start", r.Acts[4], found...)
		if n := len(m.Keep); n > 0 {
			again := x.run(t, x.text, append(x.fetched(1), m, crash())...)
			if again.Done[0] != c.want {
				t.Errorf("Keep %v: what the crash left isn't there behind the next one", c.keep)
			}
		}
	}
}

// P20.2: a crash between any two of the writes and syncs of a later move.
func TestFuses(t *testing.T) {
	x := abc(t)
	for n := range 5 {
		// the block, the claim and the sync are three
		moves := slices.Concat(x.seeds(1), []api.Move{fuse(n), says(1, x.block(0, 0)), syncs(), crash()})
		if r := x.run(t, x.text, moves...); r.Done[0] != (n >= 3) {
			t.Errorf("a fuse of %d: done is %v", n, r.Done[0])
		}
		moves[len(moves)-1] = crash(true, true)
		if r := x.run(t, x.text, moves...); r.Done[0] != (n >= 2) {
			t.Errorf("a fuse of %d, all kept: done is %v", n, r.Done[0])
		}
		// what is written behind the fuse is seen until the crash
		if r := x.run(t, x.text, moves[:len(moves)-1]...); !r.Done[0] {
			t.Errorf("a fuse of %d, no crash: not done", n)
		}
	}
	// a crash takes the fuse out
	moves := slices.Concat([]api.Move{fuse(0), crash()}, x.fetched(1), []api.Move{syncs(), crash()})
	if r := x.run(t, x.text, moves...); !r.Done[0] {
		t.Error("a fuse outlived a crash")
	}
	// one that may not be is none
	moves = slices.Concat(x.fetched(1), []api.Move{fuse(-1), syncs(), crash()})
	if r := x.run(t, x.text, moves...); !r.Done[0] {
		t.Error("a fuse of -1 is one")
	}
}

// P20.2: behind a crash all connections, bans and strikes are gone, and time begins anew.
func TestCrashForgets(t *testing.T) {
	x := abc(t)
	lie := api.Msg{Kind: api.MsgPiece, Data: []byte("abd")}
	moves := slices.Concat(x.seeds(1), []api.Move{says(1, lie), join(1), crash(), join(1)})
	r := x.run(t, x.text, moves...)
	acts(t, "the lie", r.Acts[3], failed(0, 0), ban(1))
	acts(t, "again", r.Acts[4], drop(1, api.ErrBanned))
	acts(t, "behind the crash", r.Acts[6], to(1, x.us()))
	moves = slices.Concat([]api.Move{join(2)}, times(20, tick()), []api.Move{crash(), join(2)}, times(24, tick()))
	r = x.run(t, x.text, moves...)
	for i := 24; i < 47; i++ {
		acts(t, "a tick", r.Acts[i])
	}
	acts(t, "the last tick", r.Acts[47], drop(2, api.ErrQuiet))
}

// proves is the answer of a peer to a query for the first hashes of the file 0's piece layer.
func (x *torrent) proves(q api.Query) api.Msg {
	for _, l := range x.m.Layers {
		if l.Root == q.Root {
			hashes, _ := proof.Prove(x.sc, q.Base, l.Hashes, q)
			return api.Msg{Kind: api.MsgHashes, Root: q.Root, Base: q.Base, Index: q.Index, Length: q.Length, Proofs: q.Proofs, Hashes: hashes}
		}
	}
	panic("no such layer")
}

// plan are the queries by which a file's piece layer is fetched.
func (x *torrent) plan(t *testing.T, file int) []api.Query {
	t.Helper()
	level := 0
	for x.sc.Block<<level < x.pieceLen {
		level++
	}
	n := (len(x.files[file]) + x.pieceLen - 1) / x.pieceLen
	l, e := proof.Plan(n, level, x.m.Files[file].Root)
	wants(t, "Plan", e, api.OK)
	return l
}

// P20.2: the answers of all sessions are told, in their order.
func TestAnswersOverCrashes(t *testing.T) {
	x := made(t, own, 128, some(1200))
	plan := x.plan(t, 0)
	if len(plan) != 2 {
		t.Fatalf("%d queries", len(plan))
	}
	first, second := x.proves(plan[0]), x.proves(plan[1])
	moves := slices.Concat(x.seeds(1), []api.Move{says(1, first), crash()}, x.seeds(2), []api.Move{says(2, first), says(2, second), crash(), crash()}, x.seeds(1), []api.Move{says(1, first)})
	r := x.run(t, x.bare(), moves...)
	var want []api.Answer
	for _, m := range []api.Msg{first, first, second, first} {
		q := plan[0]
		if m.Index > 0 {
			q = plan[1]
		}
		want = append(want, api.Answer{Query: q, Hashes: m.Hashes})
	}
	if !slices.EqualFunc(r.Answers, want, sameAnswer) {
		t.Errorf("%d answers, wanted %d, or others", len(r.Answers), len(want))
	}
}
