package upload_test

import (
	"math"
	"math/rand"
	"slices"
	"testing"

	"torrent/api"
)

// P18.8: there is a choosing at each multiple of Round, and at no other time; below 0 nothing happens.
func TestTimeOfChoosing(t *testing.T) {
	for _, now := range []int{0, 4, 8, 400, 1 << 40, math.MaxInt - 3} {
		x := three(t)
		x.invite(7)
		x.says(now, opens(7))
	}
	for _, now := range []int{1, 2, 3, 5, 6, 7, 402, math.MaxInt, math.MaxInt - 1, -1, -2, -3, -4, -8, math.MinInt, math.MinInt + 4} {
		x := three(t)
		x.invite(7)
		x.says(now)
	}
}

// P18.8: below 0 nothing is given and no credit goes.
func TestBelowZero(t *testing.T) {
	x := three(t)
	x.invite(1, 2, 3)
	x.tick(0)
	x.request(1, 0, 0, 1)
	x.credit(1, 5)
	for _, now := range []int{-4, -1, math.MinInt} {
		x.says(now)
	}
	x.says(1, gives(1, 0, 0, x.b[0][:1]))
	x.says(4, chokes(2), opens(3))
}

// P18.8: the time need not rise: each call is a tick of its own.
func TestTimeMayFall(t *testing.T) {
	x := three(t)
	x.invite(1, 2, 3)
	x.says(8, opens(1), opens(2))
	x.says(8, chokes(2), opens(3))
	x.says(4, chokes(1), opens(2))
	x.says(0, opens(1), chokes(3))
}

// P18.8, P18.10: the messages of the choosing go ahead of those of the giving, each by the peers' numbers rising.
func TestOrderOfMessages(t *testing.T) {
	x := three(t)
	x.invite(9, 3)
	x.says(0, opens(3), opens(9))
	x.request(9, 0, 0, 1)
	x.request(3, 0, 1, 2)
	x.request(3, 0, 0, 1)
	x.says(1, gives(3, 0, 1, x.b[0][1:3]), gives(3, 0, 0, x.b[0][:1]), gives(9, 0, 0, x.b[0][:1]))
	x.request(9, 0, 5, 1)
	x.request(3, 0, 6, 1)
	x.invite(20, 1)
	x.says(4, opens(1), chokes(3), chokes(9), opens(20)) // the mark is 9, the row 20, 1, 3, 9
	x.invite(11)
	x.request(20, 0, 5, 1)
	x.request(1, 0, 6, 1)
	x.credit(20, 1)
	x.says(8, chokes(1), opens(3), gives(20, 0, 5, x.b[0][5:6]))
}

// P18.9: who is choked has nothing waiting, then and when it is open again.
func TestChokeForgets(t *testing.T) {
	x := three(t)
	x.invite(1)
	x.tick(0)
	for range 3 {
		for i := range 16 {
			x.request(1, 0, i, 1)
		}
		x.interest(1, false)
		x.says(4, chokes(1))
		wants(t, "choked: Request", x.request(1, 0, 0, 1), api.ErrChoked)
		wants(t, "choked: Cancel", x.cancel(1, 0, 0, 1), api.ErrUnasked)
		x.says(5)
		x.interest(1, true)
		x.says(8, opens(1))
		wants(t, "open again: Cancel", x.cancel(1, 0, 0, 1), api.ErrUnasked)
		x.says(9)
	}
}

// P18.9: who stays open keeps what waits, and is not told again.
func TestStaysOpen(t *testing.T) {
	x := three(t)
	x.invite(1, 2)
	x.tick(0)
	for i := range 10 {
		x.request(1, 0, i, 3)
	}
	for k := range 3 {
		var want []api.Out
		for i := 4 * k; i < min(10, 4*k+4); i++ {
			want = append(want, gives(1, 0, i, x.b[0][i:i+3]))
		}
		x.says(4*k, want...)
	}
}

// P18.9: credits count once, those of peers that are not interested too; only the first Slots - 1 are chosen for them.
func TestCreditsGo(t *testing.T) {
	x := three(t)
	x.invite(1, 2, 3, 4)
	x.join(5)
	x.says(0, opens(1), opens(2))
	x.credit(5, 1000) // not interested: its credit is nothing worth, and gone then
	x.credit(1, 10)
	x.credit(4, 30)
	x.credit(2, 20)
	x.says(4, chokes(1), chokes(2), opens(3), opens(4)) // 4 for its credit, 3 in its turn
	x.interest(5, true)
	x.says(8, chokes(3), opens(5))                       // the mark is 3, the row 4, 5, 1, 2, 3: both in their turn,
	x.says(12, opens(1), opens(2), chokes(4), chokes(5)) // so that the mark is 5
}

// P18.9: those who are chosen for their credit do not move the mark; nor does a choosing of nobody.
func TestMarkAndCredit(t *testing.T) {
	x := three(t)
	x.invite(1, 2, 3)
	x.says(0, opens(1), opens(2)) // the mark is 2
	x.interest(2, false)
	x.interest(3, false)
	x.credit(1, 1)
	x.says(4, chokes(2)) // 1 alone, for its credit
	x.interest(1, false)
	x.says(8, chokes(1))
	for _, i := range []int{1, 2, 3} {
		x.interest(i, true)
	}
	x.says(12, opens(1), opens(3)) // the row is 3, 1, 2
}

// P18.9: the number 0 is a peer like others, and the greatest one too.
func TestEdgesOfNumbers(t *testing.T) {
	x := three(t)
	x.invite(0, math.MaxInt, 1)
	x.says(0, opens(0), opens(1))
	x.says(4, chokes(1), opens(math.MaxInt))
	x.says(8, chokes(0), opens(1))
	x.says(12, opens(0), chokes(math.MaxInt))
	x.credit(1, 1)
	x.says(16, chokes(0), opens(math.MaxInt)) // 1 for its credit; the mark is 1
}

// P18.9: with fewer interested peers than Slots all of them are open, credit or not.
func TestFewPeers(t *testing.T) {
	for n := range 3 {
		for credits := range 1 << n {
			x := three(t)
			x.join(50)
			var want []api.Out
			for i := range n {
				x.invite(10 * i)
				want = append(want, opens(10*i))
				x.credit(10*i, credits>>i&1)
			}
			x.says(0, want...)
			for k := 1; k < 5; k++ {
				x.says(4 * k)
			}
		}
	}
}

// open is who is open of so many peers.
func (x *watch) open(n int) []int {
	var l []int
	for i := range n {
		if on, _ := x.u.Open(i); on {
			l = append(l, i)
		}
	}
	return l
}

// stir brings an upload of some peers into some state, with k of them interested.
func (x *watch) stir(r *rand.Rand, k int) []int {
	for range r.Intn(60) {
		i := r.Intn(20)
		switch r.Intn(5) {
		case 0:
			x.leave(i)
		case 1:
			x.credit(i, r.Intn(4))
		case 2:
			x.tick(4 * r.Intn(3))
		default:
			x.join(i)
			x.interest(i, r.Intn(3) > 0)
		}
	}
	in := r.Perm(20)[:k]
	for i := range 20 {
		if slices.Contains(in, i) {
			x.join(i)
		}
		x.interest(i, slices.Contains(in, i))
	}
	return in
}

// P18.11: who is interested is open after one of any k choosings, if at most k peers are.
func TestEverybodyHasItsTurn(t *testing.T) {
	r := rand.New(rand.NewSource(6))
	for range 400 {
		x := three(t)
		k := 1 + r.Intn(12)
		in := x.stir(r, 1+r.Intn(k))
		had := map[int]int{}
		for now := range 3 * k {
			for range r.Intn(6) {
				x.credit(r.Intn(20), r.Intn(1000))
			}
			x.tick(4*now + 1)
			x.tick(4 * now)
			for _, i := range x.open(20) {
				had[i] = now + 1
			}
			for _, i := range in {
				if now+1-had[i] >= k {
					t.Fatalf("of %v the peer %d was not open after any of %d choosings", in, i, k)
				}
			}
		}
	}
}

// P18.11: without credits it takes so many choosings only as there are peers by Slots.
func TestTurnsWithoutCredit(t *testing.T) {
	r := rand.New(rand.NewSource(7))
	for range 400 {
		x := three(t)
		k := 1 + r.Intn(6)
		in := x.stir(r, 1+r.Intn(2*k))
		for i := range 20 {
			if x.p.peers[i] != nil && x.p.peers[i].credit > 0 {
				x.tick(0) // credits that are left go
				break
			}
		}
		had := map[int]int{}
		for now := range 4 * k {
			x.tick(4 * now)
			for _, i := range x.open(20) {
				had[i] = now + 1
			}
			for _, i := range in {
				if now+1-had[i] >= k {
					t.Fatalf("of %v the peer %d was not open after any of %d choosings", in, i, k)
				}
			}
		}
	}
}
