package upload_test

import (
	"math/rand"
	"slices"
	"testing"

	"torrent/api"
)

// three is the upload of the chapter's examples: one file of three pieces, of which 0 and 2 are there.
func three(t *testing.T) *watch {
	t.Helper()
	data := content(rand.New(rand.NewSource(1)), 300)
	x := shelved(t, own, 128, data)
	x.fill(0, 2)
	return begin(t, own, with(own, bare(own, 128, data), [][]byte{data}, 0), x)
}

// The chapter's example 1.
func TestJoinOfTheChapter(t *testing.T) {
	x := three(t)
	wants(t, "Join(4)", x.join(4), api.OK)
	wants(t, "Join(4) again", x.join(4), api.ErrPeer)
	wants(t, "Join(-1)", x.join(-1), api.ErrArg)
	if on, e := x.u.Open(4); on || e != api.OK {
		t.Errorf("Open(4) = %v, %d", on, e)
	}
	if on, e := x.u.Open(5); on || e != api.ErrPeer {
		t.Errorf("Open(5) = %v, %d", on, e)
	}
}

// The chapter's example 2.
func TestRefusalsOfTheChapter(t *testing.T) {
	x := three(t)
	x.join(4)
	wants(t, "choked", x.request(4, 0, 0, 64), api.ErrChoked)
	wants(t, "no piece", x.request(4, 3, 0, 64), api.ErrPiece)
	wants(t, "behind the end", x.request(4, 2, 0, 64), api.ErrByte)
	wants(t, "too long", x.request(4, 0, 0, 65), api.ErrByte)
	wants(t, "ahead of the begin", x.request(4, 0, -1, 1), api.ErrByte)
	wants(t, "of nothing", x.request(4, 0, 0, 0), api.ErrByte)
	wants(t, "no peer", x.request(5, 9, 9, 9), api.ErrPeer)
}

// The chapter's examples 3 to 5, one behind the other.
func TestGivingOfTheChapter(t *testing.T) {
	x := three(t)
	x.invite(4)
	x.says(1)
	x.says(4, opens(4))
	x.says(8)

	wants(t, "not there", x.request(4, 1, 0, 64), api.ErrStoreLack)
	wants(t, "first", x.request(4, 2, 0, 44), api.OK)
	wants(t, "second", x.request(4, 0, 64, 64), api.OK)
	wants(t, "first again", x.request(4, 2, 0, 44), api.OK)
	wants(t, "cancel", x.cancel(4, 0, 64, 64), api.OK)
	wants(t, "cancel again", x.cancel(4, 0, 64, 64), api.ErrUnasked)
	x.says(9, gives(4, 2, 0, x.b[2]))

	var want []api.Out
	for i := range 6 {
		wants(t, "Request", x.request(4, 0, i, 64), api.OK)
		want = append(want, gives(4, 0, i, x.b[0][i:i+64]))
	}
	x.says(10, want[:4]...)
	x.says(11, want[4:]...)
	x.says(13)
}

// The chapter's examples 6 and 7, one behind the other.
func TestChoosingOfTheChapter(t *testing.T) {
	x := three(t)
	x.invite(1, 2, 3)
	x.says(0, opens(1), opens(2))
	x.says(4, chokes(2), opens(3))
	x.says(8, chokes(1), opens(2))

	wants(t, "Credit(1, 64)", x.credit(1, 64), api.OK)
	wants(t, "Credit(3, 128)", x.credit(3, 128), api.OK)
	x.says(12, opens(1), chokes(2))
	x.says(16, chokes(1), opens(2))
}

// The chapter's examples 8 and 9.
func TestHashesOfTheChapter(t *testing.T) {
	x := three(t)
	x.join(4)
	l := x.p.m.Layers[0].Hashes
	z := pair(own, api.Hash{}, api.Hash{})
	q := api.Query{Root: x.p.m.Files[0].Root, Base: 1, Index: 0, Length: 2, Proofs: 1}
	is := func(q api.Query, want ...api.Hash) {
		t.Helper()
		m, e := x.hashes(4, q)
		if wants(t, "Hashes", e, api.OK); m.Kind != api.MsgHashes || !slices.Equal(m.Hashes, want) {
			t.Errorf("Hashes(%v) = %v", q, m)
		}
	}
	refused := func(q api.Query) {
		t.Helper()
		m, e := x.hashes(4, q)
		if wants(t, "Hashes", e, api.OK); m.Kind != api.MsgHashReject || len(m.Hashes) != 0 {
			t.Errorf("Hashes(%v) = %v", q, m)
		}
	}
	is(q, l[0], l[1], pair(own, l[2], z))
	low, odd, other := q, q, q
	low.Base, odd.Index, other.Root = 0, 1, api.Hash{1}
	refused(low)
	refused(odd)
	refused(other)

	q.Length = 4
	is(q, l[0], l[1], l[2], z)
}
