package session_test

import (
	"slices"
	"testing"

	"torrent/api"
	"torrent/frame"
	"torrent/message"
	"torrent/proof"
)

// unwired is the message that an act lets go.
func unwired(t *testing.T, a api.Act) api.Msg {
	t.Helper()
	ms, n, e := message.Unwire(a.Data)
	if a.Kind != api.ActSend || e != api.OK || n != len(a.Data) || len(ms) != 1 {
		t.Fatalf("no message: %v", a)
	}
	return ms[0]
}

// answered is the true answer to a query.
func (x *torrent) answered(m api.Msg) api.Msg {
	q := api.Query{Root: m.Root, Base: m.Base, Index: m.Index, Length: m.Length, Proofs: m.Proofs}
	m.Kind = api.MsgHashes
	for _, l := range x.full.Layers {
		if l.Root == m.Root {
			m.Hashes, _ = proof.Prove(x.sc, m.Base, l.Hashes, q)
		}
	}
	return m
}

// lying is an answer with a bit turned.
func lying(m api.Msg) api.Msg {
	m.Hashes = slices.Clone(m.Hashes)
	m.Hashes[0][5] ^= 4
	return m
}

// P19.4: nobody is no act; a stream cut anywhere says the same.
func TestBytesCut(t *testing.T) {
	x := whole(t, 128, some(300))
	stream := slices.Concat(x.hello(), wire(x.field(0, 1, 2), plainly(api.MsgUnchoke)))
	want := said(1, plainly(api.MsgInterested), x.request(0, 0), x.request(0, 1), x.request(1, 0), x.request(1, 1))
	for cut := range len(stream) + 1 {
		w := x.begin(t)
		acts(t, "nobody", w.bytes(1, stream))
		w.join(1)
		acts(t, "both parts", slices.Concat(w.bytes(1, stream[:cut]), w.bytes(1, stream[cut:])), want)
	}
}

// P19.4: what is broken closes that connection alone, behind the events ahead of it; it is not banned.
func TestBroken(t *testing.T) {
	x := whole(t, 64, some(300))
	other := frame.Greet(api.Hello{})
	for _, c := range []struct {
		what string
		b    []byte
		want api.Errno
	}{
		{"no handshake", make([]byte, 68), api.ErrHello},
		{"another torrent", other, api.ErrPeerInfo},
		{"too long a frame", append(x.hello(), 0, 0, 128, 1), api.ErrFrame},
		{"a kind that nobody knows", append(x.hello(), 0, 0, 0, 1, 9), api.ErrMsgKind},
		{"a message of a wrong length", append(x.hello(), 0, 0, 0, 2, 1, 1), api.ErrMsgSize},
		{"a request for nothing", append(x.hello(), 0, 0, 0, 13, 6, 0, 0, 0, 0, 0, 0, 0, 0, 0, 0, 0, 0), api.ErrMsgField},
		{"a bitfield behind another message", append(x.hello(), wire(plainly(api.MsgUnchoke), x.field())...), api.ErrPeerOrder},
		{"a bitfield that does not fit", append(x.hello(), 0, 0, 0, 2, 5, 1), api.ErrPeerField},
		{"a piece that is not there", append(x.hello(), wire(have(5))...), api.ErrPeerIndex},
	} {
		w := x.begin(t)
		w.seeds(2)
		w.join(1)
		acts(t, c.what, w.bytes(1, c.b), drop(1, c.want))
		acts(t, c.what+": gone", w.bytes(1, c.b))
		if p := w.s.Peers(); !slices.Equal(p, []int{2}) {
			t.Errorf("%s: Peers = %v", c.what, p)
		}
		if l := w.join(1); len(l) != 1 || l[0].Kind != api.ActSend {
			t.Errorf("%s: it can't come again: %v", c.what, l)
		}
	}
}

// P19.4: what comes ahead of the break counts, what lies behind it does not; nothing more is said to who is broken.
func TestAheadOfBreak(t *testing.T) {
	x := whole(t, 64, some(64), some(128))
	w := x.begin(t)
	w.seeds(1, 2)
	b := slices.Concat(wire(x.block(0, 0)), []byte{0, 0, 0, 1, 9}, wire(x.block(1, 0)))
	acts(t, "a block and a break", w.bytes(1, b), said(2, x.cancel(0, 0)), gotPiece(0, 0), said(2, have(0)), gotFile(0), drop(1, api.ErrMsgKind))

	w.seeds(3)
	b = slices.Concat(wire(wrong(x.block(1, 0)), x.block(2, 0)), []byte{0, 0, 0, 1, 9})
	acts(t, "a lie and a break", w.bytes(3, b), said(2, x.cancel(1, 0)), failed(1, 1), ban(3), said(2, x.request(1, 0)))
	acts(t, "banned", w.join(3), drop(3, api.ErrBanned))
	if have := w.s.Have(); !slices.Equal(have, []byte{128}) {
		t.Errorf("Have = %v", have)
	}
}

// P19.6: who shakes hands is told what is had, if something is.
func TestHello(t *testing.T) {
	x := whole(t, 64, some(700))
	for _, c := range []struct {
		had  []int
		want []api.Act
	}{
		{nil, nil},
		{[]int{0}, said(1, x.field(0))},
		{[]int{10}, said(1, x.field(10))},
		{x.every(), said(1, x.field(x.every()...))},
	} {
		w, _ := x.watched(t, x.filled(t, c.had...))
		w.join(1)
		acts(t, "half a handshake", w.bytes(1, x.hello()[:40]))
		acts(t, "the handshake", w.bytes(1, x.hello()[40:]), c.want)
		acts(t, "behind it", w.bytes(1, nil))
	}
	w := whole(t, 64, nil).begin(t)
	w.join(1)
	acts(t, "no pieces", w.bytes(1, w.hello()))
}

// P19.6: signs of life, messages that may be passed over, and an unchoke of who has nothing do nothing.
func TestNothing(t *testing.T) {
	x := whole(t, 64, some(70))
	w := x.begin(t)
	w.meet(nil, 1)
	acts(t, "alive", w.says(1, plainly(api.MsgAlive), plainly(api.MsgAlive)))
	acts(t, "other", w.says(1, api.Msg{Kind: api.MsgOther, Index: 200, Data: []byte("xyz")}))
	acts(t, "unchoke", w.says(1, plainly(api.MsgUnchoke)))
	acts(t, "a refusal of nothing", w.says(1, api.Msg{Kind: api.MsgHashReject}))
	acts(t, "an answer to nothing", w.says(1, api.Msg{Kind: api.MsgHashes, Hashes: []api.Hash{{1}}}))
	acts(t, "a block that nobody asked for", w.says(1, x.block(0, 0)))
	acts(t, "no bytes", w.bytes(1, nil))
}

// P19.6: a choke takes back what was asked, an unchoke lets it be asked again.
func TestChoked(t *testing.T) {
	x := whole(t, 64, some(130))
	w := x.begin(t)
	w.seeds(1)
	acts(t, "choke", w.says(1, plainly(api.MsgChoke)))
	acts(t, "a block of who chokes", w.says(1, x.block(0, 0)))
	acts(t, "unchoke", w.says(1, plainly(api.MsgUnchoke)), said(1, x.request(0, 0), x.request(1, 0), x.request(2, 0)))
	acts(t, "both at once", w.says(1, plainly(api.MsgChoke), plainly(api.MsgUnchoke)), said(1, x.request(0, 0), x.request(1, 0), x.request(2, 0)))
	acts(t, "a block", w.says(1, x.block(1, 0)), gotPiece(1, 0), said(1, have(1)))
}

// P19.6: pieces that a peer tells one by one, and by its bitfield.
func TestHas(t *testing.T) {
	x := whole(t, 64, some(200))
	w := x.begin(t)
	w.meet([]api.Msg{plainly(api.MsgAlive), x.field(2), plainly(api.MsgUnchoke)}, 1)
	acts(t, "the one", w.says(1, x.block(2, 0)), gotPiece(2, 0), said(1, have(2), plainly(api.MsgIdle)))
	acts(t, "one that is had", w.says(1, have(2)))
	acts(t, "one more", w.says(1, have(0)), said(1, plainly(api.MsgInterested), x.request(0, 0)))
	acts(t, "one more", w.says(1, have(3)), said(1, x.request(3, 0)))
}

// P19.6: requests are answered at the ticks, what was taken back is not.
func TestGiven(t *testing.T) {
	x := whole(t, 64, some(200))
	w, _ := x.watched(t, x.filled(t, 0, 1))
	w.meet(nil, 1)
	acts(t, "choked", w.says(1, x.request(0, 0)))
	acts(t, "interested", w.says(1, plainly(api.MsgInterested)))
	for range 3 {
		acts(t, "Tick", w.tick())
	}
	acts(t, "the choosing", w.tick(), said(1, plainly(api.MsgUnchoke)))
	part := api.Msg{Kind: api.MsgRequest, Index: 1, Begin: 3, Length: 7}
	acts(t, "requests", w.says(1, x.request(0, 0), part, x.request(2, 0), x.cancel(0, 0)))
	acts(t, "the giving", w.tick(), said(1, api.Msg{Kind: api.MsgPiece, Index: 1, Begin: 3, Data: x.pieces[1][3:10]}))
	acts(t, "idle", w.says(1, plainly(api.MsgIdle), x.request(1, 0)))
	acts(t, "the giving", w.tick(), said(1, x.block(1, 0)))
	acts(t, "Tick", w.tick())
	acts(t, "the choosing", w.tick(), said(1, plainly(api.MsgChoke)), said(1, plainly(api.MsgAlive)))
}

// P19.6: queries of a peer are answered at once, choked or not.
func TestHashesGiven(t *testing.T) {
	x := whole(t, 64, some(300))
	w := x.begin(t)
	w.meet(nil, 1)
	q := api.Msg{Kind: api.MsgHashRequest, Root: x.m.Files[0].Root, Base: 0, Index: 0, Length: 2, Proofs: 2}
	l := w.says(1, q)
	acts(t, "a query", l, said(1, x.answered(q)))
	q.Index = 1
	no := q
	no.Kind = api.MsgHashReject
	acts(t, "one that can't be", w.says(1, q), said(1, no))
	acts(t, "two at once", w.says(1, q, q), said(1, no, no))
}

// P19.6: hashes are asked of who has something that we lack, believed where they lead to the root, and let blocks be asked for.
func TestHashesTaken(t *testing.T) {
	x := bare(t, 64, some(600))
	w := x.begin(t)
	q := w.meetAsked(1)
	acts(t, "unchoke", w.says(1, plainly(api.MsgUnchoke)))
	a := x.answered(q)
	next := q
	next.Index = 8
	acts(t, "the answer", w.says(1, a), said(1, next, x.request(0, 0), x.request(1, 0), x.request(2, 0), x.request(3, 0)))
	acts(t, "the answer again", w.says(1, a))
	want := api.Query{Root: x.m.Files[0].Root, Base: 0, Index: 0, Length: 8, Proofs: q.Proofs}
	l := w.s.Answers()
	if len(l) != 1 || l[0].Query != want || !slices.Equal(l[0].Hashes, a.Hashes) {
		t.Fatalf("Answers = %v", l)
	}
	acts(t, "the other one", w.says(1, x.answered(next)))
	l = w.s.Answers()
	if want.Index = 8; len(l) != 2 || l[1].Query != want || l[0].Query == want {
		t.Fatalf("Answers = %v", l)
	}
}

// P19.6: a false answer bans; what is out at it is asked of others.
func TestHashesFalse(t *testing.T) {
	x := bare(t, 64, some(300))
	w := x.begin(t)
	q := w.meetAsked(1)
	w.meetAsked(2) // the same: there is no other chunk
	acts(t, "the lie", w.says(1, lying(x.answered(q)), x.answered(q)), ban(1))
	acts(t, "again", w.join(1), drop(1, api.ErrBanned))
	if l := w.s.Answers(); len(l) != 0 {
		t.Errorf("Answers = %v", l)
	}
	short := x.answered(q)
	short.Hashes = short.Hashes[1:]
	acts(t, "too few hashes", w.says(2, short), ban(2))
}

// P19.6: a peer that refuses is not asked again.
func TestHashesRefused(t *testing.T) {
	x := bare(t, 64, some(300))
	w := x.begin(t)
	q := w.meetAsked(1)
	no := q
	no.Kind, no.Proofs = api.MsgHashReject, q.Proofs+1
	acts(t, "a refusal of another query", w.says(1, no))
	no.Proofs = q.Proofs
	acts(t, "the refusal", w.says(1, no))
	acts(t, "an answer behind it", w.says(1, x.answered(q)))
	if again := w.meetAsked(2); again.Index != q.Index || again.Length != q.Length {
		t.Errorf("another one is asked for %v", again)
	}
}

// P19.6: a piece that lies on the disk since an earlier start is had as soon as its hash is known; others become ready.
func TestFoundByHashes(t *testing.T) {
	x := bare(t, 64, some(300), some(300)[:250])
	w, found := x.watched(t, x.filled(t, 0, 1, 2, 3, 4, 6))
	acts(t, "start", found)
	q := w.meetAsked(1)
	w.join(2)
	w.bytes(2, x.hello())
	w.says(1, plainly(api.MsgUnchoke))
	next := api.Msg{Kind: api.MsgHashRequest, Root: x.m.Files[1].Root, Length: 4, Proofs: q.Proofs - 1}
	var want [][]api.Act
	for i := range 5 {
		want = append(want, gotPiece(i, 0), said(1, have(i)), said(2, have(i)))
	}
	acts(t, "the first file", w.says(1, x.answered(q)), append(want, gotFile(0), said(1, next))...)
	acts(t, "the other one", w.says(1, x.answered(next)), gotPiece(6, 1), said(1, have(6)), said(2, have(6)), said(1, x.request(5, 0), x.request(7, 0), x.request(8, 0)))
}
