package picker

import "slices"

// piece is what is known of one piece. As soon as it is there nothing of this matters but how rare it is.
type piece struct {
	blocks int
	rare   int
	ready  bool
	askers map[int]set[int] // by the block: the peers that are asked for it
	come   marks            // of a common one: the blocks that have come
	givers set[int]
	solo   *solo // nil, if it is common
	at     spot  // the shelf that it lies on
}

// solo is what each peer has given of a piece that is alone.
type solo struct {
	given map[int]marks // by the peer
	whole []int         // the peers by which it is whole, in the order in which it became so
}

// begun tells whether a common piece has begun.
func (c *piece) begun() bool { return c.come.count > 0 || len(c.askers) > 0 }

// spare is how many blocks of a common piece have not come and are asked of nobody. (What has come is asked of nobody.)
func (c *piece) spare() int { return c.blocks - c.come.count - len(c.askers) }

// whole tells whether a piece can be held against its hash: a common one, or what some peer gave of one that is alone.
func (c *piece) whole() bool {
	if c.solo != nil {
		return len(c.solo.whole) > 0
	}
	return c.come.count == c.blocks
}

// fresh tells whether a block is fresh for a peer.
func (c *piece) fresh(peer, block int) bool {
	if c.solo != nil {
		return !c.solo.given[peer].has(block) && !c.askers[block].has(peer)
	}
	return !c.come.has(block) && len(c.askers[block]) == 0
}

// lowest is the lowest block that is fresh for a peer; -1, if there is none.
func (c *piece) lowest(peer int) int {
	for b := range c.blocks {
		if c.fresh(peer, b) {
			return b
		}
	}
	return -1
}

// wipe forgets all that came of a piece that was common or alone.
func (c *piece) wipe() {
	c.come, c.givers, c.solo = marks{}, nil, nil
}

// sources are the peers that what is held against the hash came from, rising: of a piece that is alone the one by which it became whole last, if there is one.
func (c *piece) sources() []int {
	if c.solo == nil {
		return c.givers.list()
	}
	n := len(c.solo.whole)
	return slices.Clone(c.solo.whole[max(0, n-1):])
}

// take notes a block that a peer gave: whether the piece, of so many blocks, is whole by it now.
func (s *solo) take(peer, block, blocks int) bool {
	given := s.given[peer]
	given.put(block, true)
	s.given[peer] = given
	if given.count < blocks {
		return false
	}
	s.whole = append(s.whole, peer)
	return true
}

// drop forgets what a peer has given.
func (s *solo) drop(peer int) {
	delete(s.given, peer)
	s.whole = slices.DeleteFunc(s.whole, func(q int) bool { return q == peer })
}
