package picker_test

import (
	"slices"
	"testing"

	"torrent/api"
	"torrent/picker"
)

// three is the picker of the chapter's examples.
func three(t *testing.T) *watch {
	t.Helper()
	x := ready(t, 2, 2, 1)
	wants(t, "Join(5)", x.join(5), api.OK)
	wants(t, "Join(7)", x.join(7), api.OK)
	wants(t, "Field(5)", x.field(5, 224), api.OK)
	wants(t, "Field(7)", x.field(7, 192), api.OK)
	return x
}

// one is the picker behind the chapter's example 1.
func one(t *testing.T) *watch {
	t.Helper()
	x := three(t)
	x.asks(5, 0, 2, 0)
	x.asks(5, 0, 0, 0)
	x.asks(5, 0, 0, 1)
	x.asks(5, 0, 1, 0)
	x.idle(5)
	return x
}

// The pieces of the chapter's examples.
func TestRareOfTheChapter(t *testing.T) {
	x := three(t)
	for i, want := range []int{2, 2, 1} {
		if n, e := x.b.Rare(i); n != want || e != api.OK {
			t.Errorf("Rare(%d) = %d, %d", i, n, e)
		}
	}
}

// The chapter's examples 1 to 5, one behind the other.
func TestRowOfTheChapter(t *testing.T) {
	x := one(t)
	x.asks(7, 1, 1, 1)
	x.asks(7, 1, 0, 0)

	x.gives(7, 0, 0, false, 5)
	_, _, e := x.got(5, 0, 0)
	wants(t, "Got(5, 0, 0)", e, api.ErrUnasked)
	x.gives(5, 0, 1, true)

	x.finds(0, false, 5, 7)
	if a, e := x.b.Alone(0); !a || e != api.OK {
		t.Fatalf("Alone(0) = %v, %d", a, e)
	}
	x.asks(7, 2, 0, 0)
	x.asks(5, 2, 0, 0)

	x.gives(7, 0, 0, false)
	x.asks(7, 2, 0, 1)
	x.gives(7, 0, 1, true)
	x.finds(0, false, 7)
	x.gives(5, 0, 0, false)
}

// The chapter's example 6.
func TestLateOfTheChapter(t *testing.T) {
	x := one(t)
	if l := x.expire(7); len(l) != 0 {
		t.Fatalf("Expire(7) = %v", l)
	}
	want := []api.Due{{Peer: 5, Piece: 0, Block: 0}, {Peer: 5, Piece: 0, Block: 1}, {Peer: 5, Piece: 1, Block: 0}, {Peer: 5, Piece: 2, Block: 0}}
	if l := x.expire(8); !slices.Equal(l, want) {
		t.Fatalf("Expire(8) = %v", l)
	}
	if l, e := x.b.Asked(5); len(l) != 0 || e != api.OK {
		t.Fatalf("Asked(5) = %v, %d", l, e)
	}
}

// The chapter's example 7.
func TestCheckedOfTheChapter(t *testing.T) {
	x := one(t)
	_, e := x.checked(2, false)
	wants(t, "Checked(2, false)", e, api.ErrState)
	x.finds(2, true)
	if l, e := x.b.Asked(5); len(l) != 3 || e != api.OK {
		t.Fatalf("Asked(5) = %v, %d", l, e)
	}
	_, e = x.checked(2, true)
	wants(t, "Checked(2, true) again", e, api.ErrState)
	if w, e := x.b.Wants(7); !w || e != api.OK {
		t.Fatalf("Wants(7) = %v, %d", w, e)
	}
}

// The chapter's example 8.
func TestErrorsOfTheChapter(t *testing.T) {
	x := three(t)
	wants(t, "Join(5)", x.join(5), api.ErrPeer)
	wants(t, "Join(-1)", x.join(-1), api.ErrPeer)
	wants(t, "Leave(6)", x.leave(6), api.ErrPeer)
	b, ok, e := x.b.Pick(6, 0)
	if wants(t, "Pick(6, 0)", e, api.ErrPeer); ok || b != (api.Block{}) {
		t.Errorf("Pick(6, 0) = %v, %v", b, ok)
	}
	wants(t, "Has(5, 3)", x.has(5, 3), api.ErrPiece)
	wants(t, "Field(5, 1)", x.field(5, 1), api.ErrSpare)
	_, _, e = x.got(5, 1, 2)
	wants(t, "Got(5, 1, 2)", e, api.ErrBlock)
}

// The chapter's example 9.
func TestNewOfTheChapter(t *testing.T) {
	for _, c := range []struct {
		blocks []int
		have   []byte
		want   api.Errno
	}{{[]int{2, 0}, []byte{0}, api.ErrCount}, {[]int{1025}, []byte{0}, api.ErrCount}, {[]int{1}, []byte{0, 0}, api.ErrBytes}} {
		if p, e := picker.New(c.blocks, c.have); p != nil || e != c.want {
			t.Errorf("New(%v, %v) = %v, %d; want %d", c.blocks, c.have, p, e, c.want)
		}
	}
	x := begin(t, nil, nil)
	if b := x.b.Bits(); len(b) != 0 {
		t.Errorf("Bits of no pieces = %v", b)
	}
}

// The chapter's example 10.
func TestLeaveOfTheChapter(t *testing.T) {
	x := one(t)
	wants(t, "Leave(5)", x.leave(5), api.OK)
	x.asks(7, 0, 0, 0)
}
