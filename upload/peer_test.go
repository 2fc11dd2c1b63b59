package upload_test

import (
	"math"
	"testing"

	"torrent/api"
)

var strangers = []int{math.MinInt, -1, 0, 3, 5, math.MaxInt}

// P18.2: who may join, and that it can come again.
func TestJoin(t *testing.T) {
	x := three(t)
	for _, i := range []int{-1, -2, math.MinInt} {
		wants(t, "Join", x.join(i), api.ErrArg)
		wants(t, "Leave", x.leave(i), api.ErrPeer)
	}
	for _, i := range []int{0, 7, math.MaxInt} {
		wants(t, "Leave ahead of Join", x.leave(i), api.ErrPeer)
		wants(t, "Join", x.join(i), api.OK)
		wants(t, "Join again", x.join(i), api.ErrPeer)
		wants(t, "Leave", x.leave(i), api.OK)
		wants(t, "Leave again", x.leave(i), api.ErrPeer)
		wants(t, "Join behind Leave", x.join(i), api.OK)
	}
}

// P18.2 to P18.5, P18.7: of who has not joined nothing is taken, whatever else is wrong.
func TestStrangers(t *testing.T) {
	x := three(t)
	x.invite(4)
	for range 2 {
		for _, i := range strangers {
			wants(t, "Interest", x.interest(i, true), api.ErrPeer)
			wants(t, "Credit", x.credit(i, 5), api.ErrPeer)
			wants(t, "Credit below 0", x.credit(i, -1), api.ErrPeer)
			wants(t, "Request", x.request(i, 0, 0, 1), api.ErrPeer)
			wants(t, "Request of nothing", x.request(i, -1, -1, -1), api.ErrPeer)
			wants(t, "Cancel", x.cancel(i, 0, 0, 1), api.ErrPeer)
			m, e := x.hashes(i, api.Query{Root: x.p.m.Files[0].Root, Base: 1, Length: 2})
			if wants(t, "Hashes", e, api.ErrPeer); !sameMsg(m, api.Msg{}) {
				t.Errorf("Hashes = %v", m)
			}
			if on, e := x.u.Open(i); on || e != api.ErrPeer {
				t.Errorf("Open(%d) = %v, %d", i, on, e)
			}
		}
		x.says(4, opens(4))
		x.request(4, 0, 0, 1)
		x.says(5, gives(4, 0, 0, x.b[0][:1]))
		x.interest(4, false)
		x.says(8, chokes(4))
		x.interest(4, true)
	}
}

// P18.2: nothing of who has left is kept: neither that it was open, nor its interest, its credit or what it had asked for.
func TestLeaveForgets(t *testing.T) {
	x := three(t)
	x.invite(1, 2, 3)
	x.says(0, opens(1), opens(2))
	x.request(1, 0, 0, 64)
	x.credit(1, 100)
	wants(t, "Leave", x.leave(1), api.OK)
	x.says(1)
	wants(t, "Join", x.join(1), api.OK)
	wants(t, "choked: Request", x.request(1, 0, 0, 64), api.ErrChoked)
	wants(t, "nothing waits: Cancel", x.cancel(1, 0, 0, 64), api.ErrUnasked)
	x.says(4, opens(3)) // the row is 3, 2: the peer 1 is not interested
	x.interest(1, true)
	x.says(8, opens(1), chokes(2)) // the mark is 2, the row 3, 1, 2: no credit is left
}

// P18.2, P18.9: the mark is a number: it stays where it is when its peer leaves.
func TestMarkStays(t *testing.T) {
	x := three(t)
	x.invite(1, 2, 3, 4, 5)
	x.says(0, opens(1), opens(2))
	x.leave(2)
	x.says(4, chokes(1), opens(3), opens(4))
	x.leave(4)
	x.leave(3)
	x.invite(4)
	x.says(8, opens(1), opens(5))
	x.leave(5)
	x.leave(1)
	x.leave(4)
	x.says(12)
	x.invite(0, 1, 2, 3)
	x.says(16, opens(2), opens(3))
}

// P18.3: interest does not open or choke anybody by itself, and may be told twice.
func TestInterest(t *testing.T) {
	x := three(t)
	x.join(4)
	for range 2 {
		x.says(0)
		x.interest(4, true)
		x.interest(4, true)
		x.says(1)
		x.says(4, opens(4))
		x.interest(4, false)
		x.interest(4, false)
		wants(t, "no longer interested, but open: Request", x.request(4, 0, 0, 64), api.OK)
		x.says(5, gives(4, 0, 0, x.b[0][:64]))
		x.interest(4, true)
		x.says(8)
		x.interest(4, false)
		x.says(12, chokes(4))
	}
}

// P18.3: a credit grows up to MaxLen and stays there; bytes below 0 are refused.
func TestCredit(t *testing.T) {
	const most = 1099511627776
	gave := func(peer1, peer2 []int, first int) {
		t.Helper()
		x := three(t)
		x.invite(1, 2, 3, 4)
		x.says(0, opens(1), opens(2))
		for _, n := range peer1 {
			wants(t, "Credit", x.credit(1, n), api.OK)
		}
		for _, n := range peer2 {
			wants(t, "Credit", x.credit(2, n), api.OK)
		}
		x.says(4, chokes(3-first), opens(3))
	}
	gave([]int{1}, []int{0}, 1)
	gave([]int{0}, []int{1}, 2)
	gave([]int{5}, []int{5}, 1)
	gave([]int{5, 1}, []int{6}, 1)
	gave([]int{5}, []int{3, 3}, 2)
	gave([]int{most - 1}, []int{most}, 2)
	gave([]int{most}, []int{most + 1}, 1)
	gave([]int{most}, []int{math.MaxInt, math.MaxInt}, 1)
	gave([]int{most - 1}, []int{math.MaxInt, 0, 1}, 2)
	gave([]int{most - 1, 2}, []int{most - 2, 1}, 1)
	gave([]int{most - 2, 1}, []int{most - 1, math.MaxInt}, 2)

	x := three(t)
	x.invite(1)
	for _, n := range []int{-1, math.MinInt} {
		wants(t, "Credit", x.credit(1, n), api.ErrArg)
	}
}
