package session_test

import (
	"slices"
	"testing"

	"torrent/api"
)

// ticks lets so many ticks pass that nothing is to happen at.
func (x *watch) ticks(n int) {
	x.t.Helper()
	for range n {
		acts(x.t, "Tick", x.tick())
	}
}

// P19.5: with nobody there time goes by.
func TestEmptyTicks(t *testing.T) {
	w := whole(t, 64, some(70)).begin(t)
	w.ticks(100)
}

// P19.5: who is late three times is dropped, not banned: each block is one strike.
func TestSlow(t *testing.T) {
	x := whole(t, 64, some(64))
	w := x.begin(t)
	w.seeds(1)
	w.ticks(7)
	acts(t, "8", w.tick(), said(1, x.cancel(0, 0), plainly(api.MsgAlive), x.request(0, 0)))
	w.ticks(7)
	acts(t, "16", w.tick(), said(1, x.cancel(0, 0), plainly(api.MsgAlive), x.request(0, 0)))
	w.says(1, plainly(api.MsgAlive))
	w.ticks(7)
	acts(t, "24", w.tick(), said(1, x.cancel(0, 0)), drop(1, api.ErrSlow))
	w.seeds(1)
	w.ticks(7)
	acts(t, "32", w.tick(), said(1, x.cancel(0, 0), plainly(api.MsgAlive), x.request(0, 0)))
}

// P19.5: strikes are those of all blocks, and of all ticks.
func TestSlowAtOnce(t *testing.T) {
	x := whole(t, 64, some(200))
	w := x.begin(t)
	w.seeds(1)
	w.ticks(7)
	acts(t, "four late blocks", w.tick(), said(1, x.cancel(0, 0), x.cancel(1, 0), x.cancel(2, 0), x.cancel(3, 0)), drop(1, api.ErrSlow))

	x = whole(t, 64, some(100))
	w = x.begin(t)
	w.seeds(1)
	w.ticks(7)
	acts(t, "two late blocks", w.tick(), said(1, x.cancel(0, 0), x.cancel(1, 0), plainly(api.MsgAlive), x.request(0, 0), x.request(1, 0)))
	w.ticks(7)
	acts(t, "two more", w.tick(), said(1, x.cancel(0, 0), x.cancel(1, 0)), drop(1, api.ErrSlow))
}

// P19.5: late queries are strikes too, together with late blocks, and are asked again.
func TestSlowHashes(t *testing.T) {
	x := bare(t, 64, some(300))
	w := x.begin(t)
	q := w.meetAsked(1)
	w.ticks(7)
	acts(t, "8", w.tick(), said(1, plainly(api.MsgAlive), q))
	w.ticks(7)
	acts(t, "16", w.tick(), said(1, plainly(api.MsgAlive), q))
	w.ticks(7)
	acts(t, "24", w.tick(), drop(1, api.ErrSlow)) // and not ErrQuiet

	x = bare(t, 64, some(300), some(7))
	w = x.begin(t)
	q = w.meetAsked(1)
	acts(t, "unchoke", w.says(1, plainly(api.MsgUnchoke)), said(1, x.request(5, 0)))
	w.ticks(7)
	acts(t, "both", w.tick(), said(1, x.cancel(5, 0), plainly(api.MsgAlive), q, x.request(5, 0)))
	w.ticks(7)
	acts(t, "both again", w.tick(), said(1, x.cancel(5, 0)), drop(1, api.ErrSlow))
}

// P19.5: the cancels go by rising peers, ahead of all drops; what one is dropped with is asked of the others.
func TestSlowOrder(t *testing.T) {
	x := whole(t, 64, some(250))
	w := x.begin(t)
	w.seeds(7, 3)
	w.says(3, x.block(0, 0), x.block(1, 0))
	w.ticks(7)
	acts(t, "two are late", w.tick(),
		said(3, x.cancel(2, 0), x.cancel(3, 0)), said(7, x.cancel(2, 0), x.cancel(3, 0)),
		said(3, plainly(api.MsgAlive)), said(7, plainly(api.MsgAlive)),
		said(3, x.request(2, 0), x.request(3, 0)), said(7, x.request(2, 0), x.request(3, 0)))
	w.ticks(7)
	acts(t, "both again", w.tick(),
		said(3, x.cancel(2, 0), x.cancel(3, 0)), said(7, x.cancel(2, 0), x.cancel(3, 0)),
		drop(3, api.ErrSlow), drop(7, api.ErrSlow))
}

// P19.5: who says nothing for Quiet ticks is dropped, its handshake or not; a call without bytes is nothing said.
func TestQuiet(t *testing.T) {
	x := whole(t, 64, some(64))
	w := x.begin(t)
	w.tick()
	w.join(1)
	w.ticks(6)
	acts(t, "8", w.tick())
	w.ticks(7)
	w.tick()
	w.ticks(7)
	acts(t, "no byte", w.bytes(1, nil))
	acts(t, "24", w.tick())
	acts(t, "25", w.tick(), drop(1, api.ErrQuiet))

	w = x.begin(t)
	w.meet(nil, 4)
	w.join(2)
	for i := 1; i < 60; i++ {
		var want [][]api.Act
		if i == 24 {
			want = append(want, drop(2, api.ErrQuiet))
		}
		if i == 23+24 {
			want = append(want, drop(4, api.ErrQuiet))
		}
		if i%8 == 0 && i < 23+24 {
			want = append(want, said(4, plainly(api.MsgAlive)))
		}
		acts(t, "Tick", w.tick(), want...)
		if i == 23 {
			w.bytes(4, []byte{0}) // one byte is enough
		}
	}
	if l := w.join(2); len(l) != 1 || l[0].Kind != api.ActSend {
		t.Errorf("it can't come again: %v", l)
	}
}

// P19.5: each is looked at by rising numbers, for one reason.
func TestDropOrder(t *testing.T) {
	x := whole(t, 64, some(200))
	w := x.begin(t)
	w.join(9)
	w.join(0)
	for range 16 {
		w.tick()
	}
	w.seeds(5)
	w.ticks(7)
	acts(t, "24", w.tick(), said(5, x.cancel(0, 0), x.cancel(1, 0), x.cancel(2, 0), x.cancel(3, 0)), drop(0, api.ErrQuiet), drop(5, api.ErrSlow), drop(9, api.ErrQuiet))
	if p := w.s.Peers(); len(p) != 0 {
		t.Errorf("Peers = %v", p)
	}
}

// P19.5: behind what is late, what is given; behind that the signs of life; behind these the round.
func TestOrderOfTick(t *testing.T) {
	x := whole(t, 64, some(128))
	w, _ := x.watched(t, x.filled(t, 0))
	w.meet([]api.Msg{x.field(1), plainly(api.MsgUnchoke)}, 1)
	w.ticks(7)
	w.says(1, plainly(api.MsgInterested))
	acts(t, "8", w.tick(), said(1, x.cancel(1, 0), plainly(api.MsgUnchoke), plainly(api.MsgAlive), x.request(1, 0)))
	w.says(1, x.request(0, 0))
	acts(t, "9", w.tick(), said(1, x.block(0, 0)))
}

// P19.5: who is dropped is given nothing any more, and its place goes to others.
func TestDroppedIsGivenNothing(t *testing.T) {
	x := whole(t, 64, some(300))
	w, _ := x.watched(t, x.filled(t, 0))
	w.meet([]api.Msg{x.field(1, 2, 3, 4), plainly(api.MsgInterested)}, 1, 2, 3)
	w.ticks(3)
	acts(t, "4", w.tick(), said(1, plainly(api.MsgUnchoke)), said(2, plainly(api.MsgUnchoke)))
	w.says(1, plainly(api.MsgUnchoke)) // asked for four blocks
	for range 7 {
		w.tick()
	}
	w.says(1, x.request(0, 0))
	l := w.tick() // 12
	if !slices.ContainsFunc(l, func(a api.Act) bool { return sameAct(a, drop(1, api.ErrSlow)[0]) }) {
		t.Fatalf("not dropped: %v", l)
	}
	for i, a := range l[4:] {
		if a.Peer == 1 && a.Kind == api.ActSend {
			t.Errorf("the act %d goes to it: %v", i, l)
		}
	}
}

// P19.9: we are interested in who has what we lack, ready or not, and ask who doesn't choke us, up to Depth.
func TestRound(t *testing.T) {
	x := whole(t, 64, some(64*6))
	w := x.begin(t)
	w.meet(nil, 1)
	acts(t, "has nothing", w.says(1, plainly(api.MsgUnchoke)))
	acts(t, "has one", w.says(1, have(3)), said(1, plainly(api.MsgInterested), x.request(3, 0)))
	for i, want := range [][]api.Act{said(1, x.request(0, 0)), said(1, x.request(1, 0)), said(1, x.request(2, 0)), nil, nil, nil} {
		acts(t, "has more", w.says(1, have(i)), want)
	}
	acts(t, "a block", w.says(1, x.block(0, 0)), gotPiece(0, 0), said(1, have(0), x.request(4, 0)))

	acts(t, "another one chokes", w.join(2)[1:])
	acts(t, "and is told our interest alone", w.bytes(2, slices.Concat(x.hello(), wire(have(5)))), said(2, x.field(0), plainly(api.MsgInterested)))
	acts(t, "until it does not", w.says(2, plainly(api.MsgUnchoke)), said(2, x.request(5, 0)))
	acts(t, "has nothing else", w.says(2, x.block(5, 0)), gotPiece(5, 0), said(1, have(5)), said(2, have(5), plainly(api.MsgIdle)))
}

// P19.9: hashes are asked of who chokes us, too, and ahead of blocks; of who has nothing that we lack they are not.
func TestRoundHashes(t *testing.T) {
	x := bare(t, 64, some(300), some(3))
	w, _ := x.watched(t, x.filled(t, 5))
	w.meet([]api.Msg{x.field(5)}, 1)
	acts(t, "has what is had", w.says(1, plainly(api.MsgUnchoke)))
	q := w.join(2)
	acts(t, "handshake", q[1:])
	l := w.bytes(2, slices.Concat(x.hello(), wire(have(4))))
	acts(t, "has a piece whose hash is not known", l[:2], said(2, x.field(5), plainly(api.MsgInterested)))
	if m := unwired(t, l[2]); len(l) != 3 || m.Kind != api.MsgHashRequest {
		t.Fatalf("asked for %v", l)
	}
	acts(t, "the answer", w.says(2, x.answered(unwired(t, l[2]))))
	acts(t, "unchoke", w.says(2, plainly(api.MsgUnchoke)), said(2, x.request(4, 0)))
}

// P19.9: the round goes by rising peers, each one wholly.
func TestRoundOrder(t *testing.T) {
	x := whole(t, 64, some(64*5))
	w := x.begin(t)
	w.seeds(1) // asked for 0 to 3
	w.seeds(4) // for 4, and for 0 to 2
	w.seeds(3) // for 0 to 3
	acts(t, "0", w.says(4, x.block(0, 0)), said(1, x.cancel(0, 0)), said(3, x.cancel(0, 0)),
		gotPiece(0, 0), said(1, have(0)), said(3, have(0)), said(4, have(0)),
		said(1, x.request(4, 0)), said(3, x.request(4, 0)), said(4, x.request(3, 0)))
}
