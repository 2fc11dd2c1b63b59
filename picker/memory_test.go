package picker_test

import (
	"bytes"
	"math/rand"
	"slices"
	"testing"

	"torrent/api"
	"torrent/picker"
)

// spoil writes over a list, and over its spare room.
func spoil[T any](l []T, with T) {
	l = l[:cap(l)]
	for i := range l {
		l[i] = with
	}
}

// P0.4, P16.14: what is handed in is not changed, its spare room neither, and not kept.
func TestNothingIsKept(t *testing.T) {
	blocks, have := []int{2, 1, 3, 77}, []byte{128, 99}
	p, e := picker.New(blocks[:3], have[:1])
	wants(t, "New", e, api.OK)
	if !slices.Equal(blocks, []int{2, 1, 3, 77}) || !bytes.Equal(have, []byte{128, 99}) {
		t.Fatal("what was handed in has changed")
	}
	spoil(blocks, 1)
	spoil(have, 255)
	x := &watch{t, p, newPlain([]int{2, 1, 3}, []byte{128}), map[api.Block]int{}}
	x.look()
	for i := range 3 {
		x.ready(i)
	}
	x.join(1)
	has := []byte{160, 99}
	x.field(1, has[:1]...)
	if !bytes.Equal(has, []byte{160, 99}) {
		t.Fatal("what was handed in has changed")
	}
	spoil(has, 255)
	x.look()
	for b := range 3 {
		x.asks(1, 0, 2, b)
	}
	x.idle(1)
}

// P0.5, P16.14: answers that are written over and appended to are seen in no picker and in no other answer.
func TestAnswersAreNew(t *testing.T) {
	r := rand.New(rand.NewSource(5))
	for range 100 {
		x := some(t, r)
		for now := range 150 {
			call(r, x, now)
			peer, piece := r.Intn(4), r.Intn(len(x.p.blocks)+1)
			spoil(x.b.Bits(), 255)
			l, _ := x.b.Asked(peer)
			m, _ := x.b.Asked(peer)
			spoil(l, api.Block{Piece: -7})
			if slices.Contains(m, api.Block{Piece: -7}) {
				t.Fatal("two answers share memory")
			}
			switch r.Intn(6) {
			case 0:
				spoil(x.expire(now), api.Due{Peer: -7})
			case 1:
				l, _ := x.checked(piece, r.Intn(3) == 0)
				spoil(l, -7)
			case 2:
				if l := x.p.asked(peer); len(l) > 0 {
					others, _, _ := x.got(peer, l[0].Piece, l[0].Block)
					spoil(others, -7)
				}
			}
			x.look()
		}
	}
}

// P0.5: the givers that Checked tells, and the peers that Got tells, when many are told.
func TestManyAreTold(t *testing.T) {
	x := ready(t, 9)
	for peer := range 9 {
		x.join(peer)
		x.has(peer, 0)
	}
	for peer := range 9 {
		x.asks(peer, 0, 0, peer)
	}
	for peer := range 9 {
		x.asks(peer, 0, 0, min(1, max(0, 1-peer)))
	}
	others, _, e := x.got(0, 0, 0)
	if wants(t, "Got", e, api.OK); !slices.Equal(others, []int{1, 2, 3, 4, 5, 6, 7, 8}) {
		t.Fatalf("Got = %v", others)
	}
	spoil(others, -7)
	x.look()
	for peer := 1; peer < 9; peer++ {
		x.got(peer, 0, peer)
	}
	who, e := x.checked(0, false)
	if wants(t, "Checked", e, api.OK); !slices.Equal(who, []int{0, 1, 2, 3, 4, 5, 6, 7, 8}) {
		t.Fatalf("Checked = %v", who)
	}
	spoil(who, -7)
	for b := range 9 {
		x.asks(0, 0, 0, b)
		x.gives(0, 0, b, b == 8)
	}
	who, e = x.checked(0, true)
	if wants(t, "Checked", e, api.OK); !slices.Equal(who, []int{0}) {
		t.Fatalf("Checked = %v", who)
	}
}

// P0.3: two pickers have nothing to do with each other, and the same calls have the same answers.
func TestApart(t *testing.T) {
	r := rand.New(rand.NewSource(6))
	blocks := []int{2, 1, 3, 2}
	a, b := ready(t, blocks...), ready(t, blocks...)
	for now := range 400 {
		call(r, a, now)
		b.look()
		call(r, b, now)
		a.look()
	}
}

// P0.6, P16.14: a picker that is nil, and one that New has not made.
func TestNil(t *testing.T) {
	for _, p := range []*picker.Picker{nil, new(picker.Picker)} {
		if b := p.Bits(); len(b) != 0 {
			t.Errorf("Bits = %v", b)
		}
		for _, i := range []int{-1, 0, 100} {
			if l := p.Expire(i); len(l) != 0 {
				t.Errorf("Expire = %v", l)
			}
			wants(t, "Join", p.Join(i), api.ErrNil)
			wants(t, "Leave", p.Leave(i), api.ErrNil)
			wants(t, "Field", p.Field(i, []byte{1}), api.ErrNil)
			wants(t, "Has", p.Has(i, i), api.ErrNil)
			wants(t, "Ready", p.Ready(i), api.ErrNil)
			wants(t, "Choked", p.Choked(i), api.ErrNil)
			if w, e := p.Wants(i); w || e != api.ErrNil {
				t.Errorf("Wants = %v, %d", w, e)
			}
			if b, ok, e := p.Pick(i, i); b != (api.Block{}) || ok || e != api.ErrNil {
				t.Errorf("Pick = %v, %v, %d", b, ok, e)
			}
			if l, whole, e := p.Got(i, i, i); len(l) != 0 || whole || e != api.ErrNil {
				t.Errorf("Got = %v, %v, %d", l, whole, e)
			}
			if a, e := p.Alone(i); a || e != api.ErrNil {
				t.Errorf("Alone = %v, %d", a, e)
			}
			if l, e := p.Checked(i, i == 0); len(l) != 0 || e != api.ErrNil {
				t.Errorf("Checked = %v, %d", l, e)
			}
			if n, e := p.Rare(i); n != 0 || e != api.ErrNil {
				t.Errorf("Rare = %d, %d", n, e)
			}
			if l, e := p.Asked(i); len(l) != 0 || e != api.ErrNil {
				t.Errorf("Asked = %v, %d", l, e)
			}
		}
	}
}
