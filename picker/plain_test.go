package picker_test

import (
	"math/big"
	"slices"

	"torrent/api"
)

// plain is the picker of the chapter's words: everything is looked for anew at each call.
type plain struct {
	blocks       []int
	there, ready []bool
	alone        []bool
	has          map[int][]bool  // by peer
	asks         map[api.Due]int // when
	come         map[api.Block]bool
	givers       map[int][]int    // by piece
	given        map[api.Due]bool // of pieces that are alone
	whole        []api.Due        // peer and piece, in the order in which it became whole by it
}

func newPlain(blocks []int, have []byte) *plain {
	n := len(blocks)
	p := &plain{blocks: slices.Clone(blocks), there: make([]bool, n), ready: make([]bool, n), alone: make([]bool, n)}
	for i := range n {
		p.there[i] = have[i/8]>>(7-i%8)&1 == 1
	}
	p.has, p.asks, p.come = map[int][]bool{}, map[api.Due]int{}, map[api.Block]bool{}
	p.givers, p.given = map[int][]int{}, map[api.Due]bool{}
	return p
}

// forget takes those asks away that are so.
func (p *plain) forget(so func(d api.Due) bool) {
	for d := range p.asks {
		if so(d) {
			delete(p.asks, d)
		}
	}
}

// take takes away what a peer has given of a piece that is alone.
func (p *plain) take(peer, piece int) {
	for d := range p.given {
		if d.Peer == peer && d.Piece == piece {
			delete(p.given, d)
		}
	}
	p.whole = slices.DeleteFunc(p.whole, func(d api.Due) bool { return d.Peer == peer && d.Piece == piece })
}

func (p *plain) piece(piece int) api.Errno {
	if piece < 0 || piece >= len(p.blocks) {
		return api.ErrPiece
	}
	return api.OK
}

func (p *plain) join(peer int) api.Errno {
	if peer < 0 || p.has[peer] != nil {
		return api.ErrPeer
	}
	p.has[peer] = make([]bool, len(p.blocks))
	return api.OK
}

func (p *plain) leave(peer int) api.Errno {
	if p.has[peer] == nil {
		return api.ErrPeer
	}
	p.forget(func(d api.Due) bool { return d.Peer == peer })
	for i := range p.blocks {
		p.take(peer, i)
	}
	delete(p.has, peer)
	return api.OK
}

// fits is the error of a bitfield.
func (p *plain) fits(has []byte) api.Errno {
	n := len(p.blocks)
	if len(has) != (n+7)/8 {
		return api.ErrBytes
	}
	for i := n; i < 8*len(has); i++ {
		if has[i/8]>>(7-i%8)&1 == 1 {
			return api.ErrSpare
		}
	}
	return api.OK
}

func (p *plain) field(peer int, has []byte) api.Errno {
	if p.has[peer] == nil {
		return api.ErrPeer
	}
	if e := p.fits(has); e != api.OK {
		return e
	}
	for i := range p.blocks {
		p.has[peer][i] = has[i/8]>>(7-i%8)&1 == 1
	}
	return api.OK
}

func (p *plain) hasToo(peer, piece int) api.Errno {
	if p.has[peer] == nil {
		return api.ErrPeer
	}
	if e := p.piece(piece); e != api.OK {
		return e
	}
	p.has[peer][piece] = true
	return api.OK
}

func (p *plain) setReady(piece int) api.Errno {
	e := p.piece(piece)
	if e == api.OK {
		p.ready[piece] = true
	}
	return e
}

func (p *plain) wants(peer int) bool {
	for i, has := range p.has[peer] {
		if has && !p.there[i] {
			return true
		}
	}
	return false
}

func (p *plain) rare(piece int) int {
	n := 0
	for _, has := range p.has {
		if has[piece] {
			n++
		}
	}
	return n
}

func (p *plain) asked(peer int) []api.Block {
	var l []api.Block
	for i, n := range p.blocks {
		for b := range n {
			if _, ok := p.asks[api.Due{Peer: peer, Piece: i, Block: b}]; ok {
				l = append(l, api.Block{Piece: i, Block: b})
			}
		}
	}
	return l
}

// askers are the peers that are asked for a block, rising.
func (p *plain) askers(piece, block int) []int {
	var l []int
	for d := range p.asks {
		if d.Piece == piece && d.Block == block {
			l = append(l, d.Peer)
		}
	}
	slices.Sort(l)
	return l
}

// fresh is the lowest block of a piece that is fresh for a peer; -1: there is none.
func (p *plain) fresh(peer, piece int) int {
	for b := range p.blocks[piece] {
		d := api.Due{Peer: peer, Piece: piece, Block: b}
		if _, asked := p.asks[d]; p.alone[piece] && !p.given[d] && !asked {
			return b
		}
		if !p.alone[piece] && !p.come[api.Block{Piece: piece, Block: b}] && len(p.askers(piece, b)) == 0 {
			return b
		}
	}
	return -1
}

// begun tells whether a piece has begun, an alone one: for a peer.
func (p *plain) begun(peer, piece int) bool {
	for b := range p.blocks[piece] {
		d := api.Due{Peer: peer, Piece: piece, Block: b}
		if _, asked := p.asks[d]; p.alone[piece] && (p.given[d] || asked) {
			return true
		}
		if !p.alone[piece] && (p.come[api.Block{Piece: piece, Block: b}] || len(p.askers(piece, b)) > 0) {
			return true
		}
	}
	return false
}

// choose is the block for a peer, and true; or false.
func (p *plain) choose(peer int) (api.Block, bool) {
	best := -1
	for i := range p.blocks {
		if !p.has[peer][i] || !p.ready[i] || p.there[i] || p.fresh(peer, i) < 0 {
			continue
		}
		if best >= 0 && p.begun(peer, best) != p.begun(peer, i) {
			if p.begun(peer, i) {
				best = i
			}
		} else if best < 0 || p.rare(i) < p.rare(best) {
			best = i
		}
	}
	if best >= 0 {
		return api.Block{Piece: best, Block: p.fresh(peer, best)}, true
	}
	for i, n := range p.blocks {
		for b := range n {
			_, asked := p.asks[api.Due{Peer: peer, Piece: i, Block: b}]
			if p.has[peer][i] && p.ready[i] && !p.there[i] && !p.alone[i] && !p.come[api.Block{Piece: i, Block: b}] && !asked {
				return api.Block{Piece: i, Block: b}, true
			}
		}
	}
	return api.Block{}, false
}

func (p *plain) pick(peer, now int) (api.Block, bool, api.Errno) {
	if p.has[peer] == nil {
		return api.Block{}, false, api.ErrPeer
	}
	if len(p.asked(peer)) >= 4 {
		return api.Block{}, false, api.OK
	}
	b, ok := p.choose(peer)
	if ok {
		p.asks[api.Due{Peer: peer, Piece: b.Piece, Block: b.Block}] = now
	}
	return b, ok, api.OK
}

// isWhole tells whether a common piece is whole.
func (p *plain) isWhole(piece int) bool {
	for b := range p.blocks[piece] {
		if !p.come[api.Block{Piece: piece, Block: b}] {
			return false
		}
	}
	return true
}

func (p *plain) got(peer, piece, block int) ([]int, bool, api.Errno) {
	d := api.Due{Peer: peer, Piece: piece, Block: block}
	if p.has[peer] == nil {
		return nil, false, api.ErrPeer
	}
	if e := p.piece(piece); e != api.OK {
		return nil, false, e
	}
	if block < 0 || block >= p.blocks[piece] {
		return nil, false, api.ErrBlock
	}
	if _, ok := p.asks[d]; !ok {
		return nil, false, api.ErrUnasked
	}
	delete(p.asks, d)
	if p.alone[piece] {
		p.given[d] = true
		for b := range p.blocks[piece] {
			if !p.given[api.Due{Peer: peer, Piece: piece, Block: b}] {
				return nil, false, api.OK
			}
		}
		p.whole = append(p.whole, api.Due{Peer: peer, Piece: piece})
		return nil, true, api.OK
	}
	others := p.askers(piece, block)
	p.forget(func(x api.Due) bool { return x.Piece == piece && x.Block == block })
	p.come[api.Block{Piece: piece, Block: block}] = true
	if !slices.Contains(p.givers[piece], peer) {
		p.givers[piece] = append(p.givers[piece], peer)
		slices.Sort(p.givers[piece])
	}
	return others, p.isWhole(piece), api.OK
}

func (p *plain) choked(peer int) api.Errno {
	if p.has[peer] == nil {
		return api.ErrPeer
	}
	p.forget(func(d api.Due) bool { return d.Peer == peer })
	return api.OK
}

func (p *plain) expire(now int) []api.Due {
	var l []api.Due
	for d, since := range p.asks {
		apart := new(big.Int).Sub(big.NewInt(int64(now)), big.NewInt(int64(since)))
		if apart.Cmp(big.NewInt(8)) >= 0 {
			l = append(l, d)
			delete(p.asks, d)
		}
	}
	slices.SortFunc(l, func(a, b api.Due) int {
		return slices.Compare([]int{a.Peer, a.Piece, a.Block}, []int{b.Peer, b.Piece, b.Block})
	})
	return l
}

// last is the peer by which a piece that is alone became whole last; none, if it is whole by none.
func (p *plain) last(piece int) []int {
	for i := len(p.whole) - 1; i >= 0; i-- {
		if p.whole[i].Piece == piece {
			return []int{p.whole[i].Peer}
		}
	}
	return nil
}

func (p *plain) checked(piece int, good bool) ([]int, api.Errno) {
	if e := p.piece(piece); e != api.OK {
		return nil, e
	}
	who, whole := p.givers[piece], p.isWhole(piece)
	if p.alone[piece] {
		who = p.last(piece)
		whole = len(who) > 0
	}
	if p.there[piece] || !good && !whole {
		return nil, api.ErrState
	}
	if !good && p.alone[piece] {
		p.take(who[0], piece)
		return who, api.OK
	}
	for b := range p.blocks[piece] {
		delete(p.come, api.Block{Piece: piece, Block: b})
	}
	delete(p.givers, piece)
	p.alone[piece] = !good && len(who) > 1
	if good {
		p.there[piece] = true
		p.forget(func(d api.Due) bool { return d.Piece == piece })
		for peer := range p.has {
			p.take(peer, piece)
		}
	}
	return who, api.OK
}

func (p *plain) bits() []byte {
	b := make([]byte, (len(p.blocks)+7)/8)
	for i, there := range p.there {
		if there {
			b[i/8] |= 128 >> (i % 8)
		}
	}
	return b
}
