package book_test

import (
	"math"
	"slices"
	"testing"

	"torrent/api"
)

// P15.7: what is out for Patience ticks is called over, by the peers' numbers rising; nobody is barred.
func TestExpire(t *testing.T) {
	x, a := ten(t)
	p := x.asks(900, 10, 0)
	q := x.asks(30, 12, 8)
	for i, peer := range []int{math.MaxInt, 7, 100, 0, 12} {
		x.asks(peer, 10+i, 0)
	}
	for _, now := range []int{0, 9, 17, -1, -100, math.MinInt, math.MinInt + 11} {
		if late := x.expire(now); len(late) != 0 {
			t.Fatalf("Expire(%d) = %v", now, late)
		}
	}
	if late := x.expire(18); !slices.Equal(late, []api.Late{{Peer: 900, Query: p}, {Peer: math.MaxInt, Query: p}}) {
		t.Fatalf("Expire(18) = %v", late)
	}
	if late := x.expire(18); len(late) != 0 {
		t.Fatalf("Expire(18) again = %v", late)
	}
	if late := x.expire(21); !slices.Equal(late, []api.Late{{Peer: 0, Query: p}, {Peer: 7, Query: p}, {Peer: 30, Query: q}, {Peer: 100, Query: p}}) {
		t.Fatalf("Expire(21) = %v", late)
	}
	_, e := x.accept(0, p, truth(own, 128, a, p))
	wants(t, "Accept of what is called over", e, api.ErrUnasked)
	wants(t, "Reject of what is called over", x.reject(30, q), api.ErrUnasked)
	x.asks(30, 21, 8) // the first one is out at the peer 12
	x.asks(900, 21, 0)
	if late := x.expire(22); !slices.Equal(late, []api.Late{{Peer: 12, Query: p}}) {
		t.Fatalf("Expire(22) = %v", late)
	}
	if late := x.expire(math.MaxInt); !slices.Equal(late, []api.Late{{Peer: 30, Query: q}, {Peer: 900, Query: p}}) {
		t.Fatalf("Expire(the greatest) = %v", late)
	}
}

// P15.7: the time need not rise, and what is known already is called over too.
func TestTimeGoesBack(t *testing.T) {
	x, a := ten(t)
	q := x.asks(1, 50, 0)
	x.asks(2, 40, 8)
	x.asks(3, 3, 0)
	_, e := x.accept(1, q, truth(own, 128, a, q))
	wants(t, "Accept", e, api.OK)
	if late := x.expire(11); !slices.Equal(late, []api.Late{{Peer: 3, Query: q}}) {
		t.Fatalf("Expire(11) = %v", late)
	}
	x.asks(3, 2, 8)
	if late := x.expire(10); len(late) != 1 || late[0].Peer != 3 {
		t.Fatalf("Expire(10) = %v", late)
	}
	if late := x.expire(48); len(late) != 1 || late[0].Peer != 2 {
		t.Fatalf("Expire(48) = %v", late)
	}
}

// P15.8: a peer that is dropped has nothing out and is barred from nothing; others are as they were.
func TestDrop(t *testing.T) {
	x, a := ten(t)
	for _, peer := range []int{-1, math.MinInt} {
		wants(t, "Drop", x.drop(peer), api.ErrArg)
	}
	wants(t, "Drop of somebody new", x.drop(1), api.OK)
	p := x.asks(1, 0, 0)
	q := x.asks(2, 0, 8)
	wants(t, "Drop", x.drop(1), api.OK)
	_, e := x.accept(1, p, truth(own, 128, a, p))
	wants(t, "Accept of one that was dropped", e, api.ErrUnasked)
	wants(t, "Reject of one that was dropped", x.reject(1, p), api.ErrUnasked)
	if late := x.expire(100); !slices.Equal(late, []api.Late{{Peer: 2, Query: q}}) {
		t.Fatalf("Expire = %v", late)
	}
	for _, peer := range []int{1, 2} {
		x.asks(peer, 0, 0)
		wants(t, "Reject", x.reject(peer, p), api.OK)
		x.asks(peer, 0, 8)
		_, e := x.accept(peer, q, nil)
		wants(t, "Accept of a lie", e, api.ErrBad)
		x.asks(peer, 0, -1)
	}
	wants(t, "Drop", x.drop(1), api.OK)
	x.asks(2, 0, -1)
	x.asks(1, 0, 0)
	wants(t, "Reject", x.reject(1, p), api.OK)
	x.asks(1, 0, 8)
	x.asks(2, 0, -1)
	wants(t, "Drop", x.drop(2), api.OK)
	x.asks(2, 0, 0)
	wants(t, "Drop", x.drop(1), api.OK)
	wants(t, "Drop", x.drop(1), api.OK)
	x.asks(1, 0, 8)
}
