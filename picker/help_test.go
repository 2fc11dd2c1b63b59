package picker_test

import (
	"bytes"
	"math"
	"slices"
	"testing"

	"torrent/api"
	"torrent/picker"
)

// watch holds a picker against the plain one, call by call.
type watch struct {
	t    *testing.T
	b    *picker.Picker
	p    *plain
	from map[api.Block]int // who gave each block of the common pieces
}

// begin is a new picker, watched.
func begin(t *testing.T, blocks []int, have []byte) *watch {
	t.Helper()
	b, e := picker.New(blocks, have)
	if e != api.OK || b == nil {
		t.Fatalf("New = %v, %d", b, e)
	}
	x := &watch{t, b, newPlain(blocks, have), map[api.Block]int{}}
	x.look()
	return x
}

// ready is a new picker whose pieces are all ready and of which none is there, watched.
func ready(t *testing.T, blocks ...int) *watch {
	t.Helper()
	x := begin(t, blocks, make([]byte, (len(blocks)+7)/8))
	for i := range blocks {
		x.ready(i)
	}
	return x
}

// look holds what can be seen of the picker without a change against the plain one.
func (x *watch) look() {
	x.t.Helper()
	if b := x.b.Bits(); !bytes.Equal(b, x.p.bits()) {
		x.t.Fatalf("Bits = %v; want %v", b, x.p.bits())
	}
	for i := range x.p.blocks {
		if a, e := x.b.Alone(i); a != x.p.alone[i] || e != api.OK {
			x.t.Fatalf("Alone(%d) = %v, %d; want %v", i, a, e, x.p.alone[i])
		}
		if n, e := x.b.Rare(i); n != x.p.rare(i) || e != api.OK {
			x.t.Fatalf("Rare(%d) = %d, %d; want %d", i, n, e, x.p.rare(i))
		}
	}
	for peer := range x.p.has {
		if w, e := x.b.Wants(peer); w != x.p.wants(peer) || e != api.OK {
			x.t.Fatalf("Wants(%d) = %v, %d; want %v", peer, w, e, x.p.wants(peer))
		}
		if l, e := x.b.Asked(peer); !slices.Equal(l, x.p.asked(peer)) || e != api.OK {
			x.t.Fatalf("Asked(%d) = %v, %d; want %v", peer, l, e, x.p.asked(peer))
		}
	}
	x.lookAside()
}

// lookAside asks for what is not there.
func (x *watch) lookAside() {
	x.t.Helper()
	for _, i := range []int{math.MinInt, -1, len(x.p.blocks), math.MaxInt} {
		if a, e := x.b.Alone(i); a || e != api.ErrPiece {
			x.t.Fatalf("Alone(%d) = %v, %d", i, a, e)
		}
		if n, e := x.b.Rare(i); n != 0 || e != api.ErrPiece {
			x.t.Fatalf("Rare(%d) = %d, %d", i, n, e)
		}
		if x.p.has[i] != nil {
			continue
		}
		if w, e := x.b.Wants(i); w || e != api.ErrPeer {
			x.t.Fatalf("Wants(%d) = %v, %d", i, w, e)
		}
		if l, e := x.b.Asked(i); len(l) != 0 || e != api.ErrPeer {
			x.t.Fatalf("Asked(%d) = %v, %d", i, l, e)
		}
	}
}

// errs holds an answer that is an error alone against the plain one.
func (x *watch) errs(what string, e, want api.Errno) api.Errno {
	x.t.Helper()
	if e != want {
		x.t.Fatalf("%s = %d; want %d", what, e, want)
	}
	x.look()
	return e
}

func (x *watch) join(peer int) api.Errno {
	x.t.Helper()
	return x.errs("Join", x.b.Join(peer), x.p.join(peer))
}

func (x *watch) leave(peer int) api.Errno {
	x.t.Helper()
	return x.errs("Leave", x.b.Leave(peer), x.p.leave(peer))
}

func (x *watch) field(peer int, has ...byte) api.Errno {
	x.t.Helper()
	return x.errs("Field", x.b.Field(peer, has), x.p.field(peer, has))
}

func (x *watch) has(peer, piece int) api.Errno {
	x.t.Helper()
	return x.errs("Has", x.b.Has(peer, piece), x.p.hasToo(peer, piece))
}

func (x *watch) ready(piece int) api.Errno {
	x.t.Helper()
	return x.errs("Ready", x.b.Ready(piece), x.p.setReady(piece))
}

func (x *watch) choked(peer int) api.Errno {
	x.t.Helper()
	return x.errs("Choked", x.b.Choked(peer), x.p.choked(peer))
}

func (x *watch) pick(peer, now int) (api.Block, bool) {
	x.t.Helper()
	b, ok, e := x.b.Pick(peer, now)
	if c, want, f := x.p.pick(peer, now); b != c || ok != want || e != f {
		x.t.Fatalf("Pick(%d, %d) = %v, %v, %d; want %v, %v, %d", peer, now, b, ok, e, c, want, f)
	}
	if e == api.OK && !ok && len(x.p.asked(peer)) < api.Depth {
		x.allAsked(peer)
	}
	x.look()
	return b, ok
}

// allAsked fails the test unless everything that a peer has is there, has come, or is asked of it (P16.12).
func (x *watch) allAsked(peer int) {
	x.t.Helper()
	for i, has := range x.p.has[peer] {
		if !has || !x.p.ready[i] || x.p.there[i] {
			continue
		}
		for b := range x.p.blocks[i] {
			d := api.Due{Peer: peer, Piece: i, Block: b}
			_, asked := x.p.asks[d]
			if came := !x.p.alone[i] && x.p.come[api.Block{Piece: i, Block: b}]; !came && !x.p.given[d] && !asked {
				x.t.Fatalf("nothing more is asked of the peer %d, though %d, %d is missing", peer, i, b)
			}
		}
	}
}

func (x *watch) got(peer, piece, block int) ([]int, bool, api.Errno) {
	x.t.Helper()
	l, whole, e := x.b.Got(peer, piece, block)
	if w, want, f := x.p.got(peer, piece, block); !slices.Equal(l, w) || whole != want || e != f {
		x.t.Fatalf("Got(%d, %d, %d) = %v, %v, %d; want %v, %v, %d", peer, piece, block, l, whole, e, w, want, f)
	}
	if e == api.OK && !x.p.alone[piece] {
		x.from[api.Block{Piece: piece, Block: block}] = peer
	}
	x.look()
	return l, whole, e
}

func (x *watch) expire(now int) []api.Due {
	x.t.Helper()
	l := x.b.Expire(now)
	if w := x.p.expire(now); !slices.Equal(l, w) {
		x.t.Fatalf("Expire(%d) = %v; want %v", now, l, w)
	}
	x.look()
	return l
}

func (x *watch) checked(piece int, good bool) ([]int, api.Errno) {
	x.t.Helper()
	common := x.p.piece(piece) == api.OK && !x.p.alone[piece]
	l, e := x.b.Checked(piece, good)
	if w, f := x.p.checked(piece, good); !slices.Equal(l, w) || e != f {
		x.t.Fatalf("Checked(%d, %v) = %v, %d; want %v, %d", piece, good, l, e, w, f)
	}
	if e == api.OK && !good && len(l) == 1 && common {
		for b := range x.p.blocks[piece] {
			if who := x.from[api.Block{Piece: piece, Block: b}]; who != l[0] {
				x.t.Fatalf("Checked(%d, false) names %d alone, and the block %d is of %d", piece, l[0], b, who)
			}
		}
	}
	x.look()
	return l, e
}

// asks fails the test unless a peer is asked for this block.
func (x *watch) asks(peer, now, piece, block int) {
	x.t.Helper()
	if b, ok := x.pick(peer, now); !ok || b != (api.Block{Piece: piece, Block: block}) {
		x.t.Fatalf("Pick(%d, %d) = %v, %v; want %d, %d", peer, now, b, ok, piece, block)
	}
}

// idle fails the test unless a peer is asked for nothing more.
func (x *watch) idle(peer int) {
	x.t.Helper()
	if b, ok := x.pick(peer, 0); ok {
		x.t.Fatalf("Pick(%d) = %v; want nothing", peer, b)
	}
}

// gives fails the test unless a block of a peer's is taken, and others have just these peers.
func (x *watch) gives(peer, piece, block int, whole bool, others ...int) {
	x.t.Helper()
	l, w, e := x.got(peer, piece, block)
	if e != api.OK || w != whole || !slices.Equal(l, others) {
		x.t.Fatalf("Got(%d, %d, %d) = %v, %v, %d; want %v, %v", peer, piece, block, l, w, e, others, whole)
	}
}

// finds fails the test unless a piece that is held against its hash names just these peers.
func (x *watch) finds(piece int, good bool, who ...int) {
	x.t.Helper()
	if l, e := x.checked(piece, good); e != api.OK || !slices.Equal(l, who) {
		x.t.Fatalf("Checked(%d, %v) = %v, %d; want %v", piece, good, l, e, who)
	}
}

func wants(t *testing.T, what string, e, want api.Errno) {
	t.Helper()
	if e != want {
		t.Fatalf("%s = %d, want %d", what, e, want)
	}
}
