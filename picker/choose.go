package picker

import (
	"cmp"
	"math"
	"slices"

	"torrent/api"
)

// none stands for no block.
var none = api.Block{Piece: -1, Block: -1}

// spot is what a piece is chosen by, ahead of its number. The zero one is that of a piece which can't be chosen: nobody has it, at the least.
type spot struct {
	begun bool
	rare  int
}

// choice is a piece that can be chosen.
type choice struct {
	spot
	piece int
}

// ahead tells whether a choice goes ahead of another one.
func (a choice) ahead(b choice) bool {
	if a.begun != b.begun {
		return a.begun
	}
	return cmp.Or(cmp.Compare(a.rare, b.rare), cmp.Compare(a.piece, b.piece)) < 0
}

// Pick chooses the next block for a peer, and marks it as asked.
func (p *Picker) Pick(peer, now int) (api.Block, bool, api.Errno) {
	if e := p.knows(peer); e != api.OK {
		return api.Block{}, false, e
	}
	if len(p.peers[peer].asks) >= api.Depth {
		return api.Block{}, false, api.OK
	}
	b := p.fresh(peer)
	if b == none {
		b = p.endgame(peer)
	}
	if b == none {
		return api.Block{}, false, api.OK
	}
	p.ask(peer, b, now)
	return b, true, api.OK
}

// fresh is the block that a peer is asked for ahead of all others that are fresh for it.
func (p *Picker) fresh(peer int) api.Block {
	has := p.peers[peer].has
	best := choice{spot{rare: math.MaxInt}, -1}
	for s, shelf := range p.shelves {
		if best.ahead(choice{s, -1}) {
			continue // a piece of this shelf goes behind it, whatever its number
		}
		if i := shelf.lowest(has); i >= 0 {
			best = first(best, choice{s, i})
		}
	}
	for i := range p.alone.both(has) {
		if p.pieces[i].lowest(peer) >= 0 {
			best = first(best, choice{spot{p.begunFor(peer, i), p.pieces[i].rare}, i})
		}
	}
	if best.piece < 0 {
		return none
	}
	return api.Block{Piece: best.piece, Block: p.pieces[best.piece].lowest(peer)}
}

// first is the one of two choices that goes ahead.
func first(a, b choice) choice {
	if b.ahead(a) {
		return b
	}
	return a
}

// begunFor tells whether a piece that is alone has begun for a peer.
func (p *Picker) begunFor(peer, piece int) bool {
	asked := func(b api.Block) bool { return b.Piece == piece }
	return p.pieces[piece].solo.given[peer].count > 0 || slices.ContainsFunc(p.peers[peer].asks, asked)
}

// endgame is the lowest block that others are asked for and a peer could be asked for too. No more than Depth blocks are passed over that it is asked for already.
func (p *Picker) endgame(peer int) api.Block {
	for i := range p.open.both(p.peers[peer].has) {
		c := &p.pieces[i]
		for b := range c.blocks {
			if !c.come.has(b) && !c.askers[b].has(peer) {
				return api.Block{Piece: i, Block: b}
			}
		}
	}
	return none
}

// settle lays a piece where Pick looks for it. It is called whenever something of the piece has changed.
func (p *Picker) settle(i int) {
	c := &p.pieces[i]
	common := c.ready && c.solo == nil && p.lack.has(i)
	p.open.put(i, common && !c.whole())
	to := spot{}
	if common && c.spare() > 0 && c.rare > 0 {
		to = spot{c.begun(), c.rare}
	}
	if to != c.at {
		p.move(i, to)
	}
}

// move takes a piece from its shelf and lays it on another one. Empty shelves are not kept.
func (p *Picker) move(i int, to spot) {
	c := &p.pieces[i]
	if from := p.shelves[c.at]; from != nil {
		from.put(i, false)
		if from.count == 0 {
			delete(p.shelves, c.at)
		}
	}
	c.at = to
	if to == (spot{}) {
		return
	}
	if p.shelves[to] == nil {
		p.shelves[to] = &marks{}
	}
	p.shelves[to].put(i, true)
}
