package exchange

import "slices"

// giver is what is kept of a peer that said a size.
type giver struct {
	size int

	// The lowest part is asked for first, and one at a time: so the parts that were given or refused are the first ones, and the next one is the only one that can be out.
	next  int
	out   bool
	since int

	// The bytes of the parts that were given. It grows with them, so that who merely says a great size takes no room.
	row     []byte
	refused bool
}

// give takes the next part's bytes. A text with a refused part in it will never be whole, and nothing of it is kept.
func (g *giver) give(data []byte) {
	g.next++
	if g.refused {
		return
	}
	at := len(g.row)
	g.row = slices.Grow(g.row, len(data))[:at+len(data)]
	copy(g.row[at:], data)
}

// refuse passes over the next part.
func (g *giver) refuse() {
	g.next++
	g.refused, g.row = true, nil
}
