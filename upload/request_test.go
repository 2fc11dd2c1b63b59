package upload_test

import (
	"math"
	"math/rand"
	"slices"
	"testing"

	"torrent/api"
)

// P18.4: all begins and lengths about a piece's edges, and far from them.
func TestRequestRange(t *testing.T) {
	x := three(t)
	x.fill(1)
	x.invite(4)
	x.tick(0)
	for piece, n := range []int{128, 128, 44} {
		for begin := -2; begin < 132; begin++ {
			for length := -1; length < 68; length++ {
				want := api.ErrByte
				if begin >= 0 && length >= 1 && length <= 64 && begin+length <= n {
					want = api.OK
				}
				wants(t, "Request", x.u.Request(4, piece, begin, length), want)
				if want == api.OK {
					wants(t, "Cancel", x.u.Cancel(4, piece, begin, length), api.OK)
				}
			}
		}
	}
	far := []int{math.MinInt, math.MinInt + 1, math.MinInt + 64, -1 << 32, -1, 0, 1, 64, 128, 1 << 32, math.MaxInt - 64, math.MaxInt - 1, math.MaxInt}
	for _, begin := range far {
		for _, length := range far {
			for _, piece := range far {
				x.request(4, piece, begin, length)
				x.cancel(4, piece, begin, length)
			}
		}
	}
}

// P18.4: at larger blocks a request may have as many bytes as a block.
func TestRequestBlock(t *testing.T) {
	r := rand.New(rand.NewSource(5))
	for block := 64; block <= 16384; block *= 2 {
		sc := api.Scale{Block: block, Width: 32}
		data := content(r, 3*block+block/2)
		x := begin(t, sc, bare(sc, 2*block, data), shelved(t, sc, 2*block, data))
		x.fillAll()
		x.invite(4)
		x.tick(0)
		wants(t, "a block", x.request(4, 0, 3, block), api.OK)
		wants(t, "more than a block", x.request(4, 0, 0, block+1), api.ErrByte)
		wants(t, "up to the end", x.request(4, 1, block/2, block), api.OK)
		wants(t, "behind the end", x.request(4, 1, block/2+1, block), api.ErrByte)
		x.says(1, gives(4, 0, 3, data[3:3+block]), gives(4, 1, block/2, data[2*block+block/2:]))
	}
}

// P18.4: of several errors it is the first one that the promise names.
func TestRequestOrder(t *testing.T) {
	x := three(t)
	x.join(4)
	wants(t, "no piece, no byte, choked", x.request(4, 3, -1, 65), api.ErrPiece)
	wants(t, "no piece, choked", x.request(4, -1, 0, 1), api.ErrPiece)
	wants(t, "no byte, choked, not there", x.request(4, 1, 128, 1), api.ErrByte)
	wants(t, "choked, not there", x.request(4, 1, 0, 1), api.ErrChoked)
	x.interest(4, true)
	x.tick(0)
	wants(t, "no byte, not there", x.request(4, 1, 128, 1), api.ErrByte)
	wants(t, "not there", x.request(4, 1, 0, 1), api.ErrStoreLack)
	for i := range 16 {
		wants(t, "Request", x.request(4, 0, i, 1), api.OK)
	}
	wants(t, "no piece, full", x.request(4, 3, 0, 1), api.ErrPiece)
	wants(t, "no byte, full", x.request(4, 0, 128, 1), api.ErrByte)
	wants(t, "not there, full", x.request(4, 1, 0, 1), api.ErrStoreLack)
	wants(t, "waits, full", x.request(4, 0, 15, 1), api.OK)
	wants(t, "full", x.request(4, 0, 16, 1), api.ErrQueue)
}

// P18.4: MaxQueue requests of a peer wait, and no more; each peer has its own; what is given or taken back makes room.
func TestQueue(t *testing.T) {
	x := three(t)
	x.invite(4, 9)
	x.tick(0)
	for i := range 16 {
		for _, peer := range []int{4, 9} {
			wants(t, "Request", x.request(peer, 0, i, 2), api.OK)
		}
	}
	wants(t, "full", x.request(4, 0, 20, 1), api.ErrQueue)
	wants(t, "Cancel", x.cancel(4, 0, 7, 2), api.OK)
	wants(t, "Request", x.request(4, 0, 20, 1), api.OK)
	wants(t, "full again", x.request(4, 0, 7, 2), api.ErrQueue)
	wants(t, "the other is full too", x.request(9, 0, 20, 1), api.ErrQueue)
	x.tick(1)
	for i := range 4 {
		wants(t, "Request", x.request(4, 2, i, 2), api.OK)
	}
	wants(t, "full once more", x.request(4, 2, 4, 2), api.ErrQueue)
	var order []int
	for now := 5; now < 8; now++ {
		for _, o := range x.tick(now) {
			if o.Peer == 4 {
				order = append(order, 200*o.Msg.Index+o.Msg.Begin)
			}
		}
	}
	x.tick(9)
	if want := []int{4, 5, 6, 8, 9, 10, 11, 12, 13, 14, 15, 20}; !slices.Equal(order, want) {
		t.Errorf("given in the order %v, want %v", order, want)
	}
}

// P18.4, P18.5: the same request does not wait twice; one that differs in a single number is another one.
func TestSameRequest(t *testing.T) {
	x := three(t)
	x.invite(4, 5)
	x.tick(0)
	for range 3 {
		wants(t, "Request", x.request(4, 0, 10, 20), api.OK)
	}
	for _, c := range [][3]int{{2, 10, 20}, {0, 11, 20}, {0, 10, 21}} {
		wants(t, "Cancel of another", x.cancel(4, c[0], c[1], c[2]), api.ErrUnasked)
		wants(t, "Request of another", x.request(4, c[0], c[1], c[2]), api.OK)
	}
	wants(t, "Cancel of another peer's", x.cancel(5, 0, 10, 20), api.ErrUnasked)
	wants(t, "Cancel", x.cancel(4, 0, 10, 20), api.OK)
	wants(t, "Cancel again", x.cancel(4, 0, 10, 20), api.ErrUnasked)
	x.says(1, gives(4, 2, 10, x.b[2][10:30]), gives(4, 0, 11, x.b[0][11:31]), gives(4, 0, 10, x.b[0][10:31]))
	x.says(2)
	for range 2 { // what was given may be asked for again
		wants(t, "Request", x.request(4, 0, 10, 20), api.OK)
		x.says(3, gives(4, 0, 10, x.b[0][10:30]))
		wants(t, "given: Cancel", x.cancel(4, 0, 10, 20), api.ErrUnasked)
	}
}

// P18.5: whichever of the requests is taken back, the others wait in their order.
func TestCancel(t *testing.T) {
	for out := range 4 {
		x := three(t)
		x.invite(4)
		x.tick(0)
		var want []api.Out
		for i := range 4 {
			x.request(4, 0, 30-i, 5)
			if i != out {
				want = append(want, gives(4, 0, 30-i, x.b[0][30-i:35-i]))
			}
		}
		for _, c := range [][3]int{{0, 26, 5}, {0, -1, 5}, {-1, 30, 5}, {9, 9, 9}, {math.MinInt, math.MaxInt, math.MinInt}} {
			wants(t, "Cancel", x.cancel(4, c[0], c[1], c[2]), api.ErrUnasked)
		}
		wants(t, "Cancel", x.cancel(4, 0, 30-out, 5), api.OK)
		x.says(1, want...)
	}
}
