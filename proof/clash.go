package proof

import (
	"bytes"
	"slices"

	"torrent/api"
	"torrent/digest"
	"torrent/tree"
)

// pairing is two nodes that stand beside each other and the one above them.
type pairing struct{ left, right, above api.Hash }

func pair(sc api.Scale, left, right api.Hash) pairing {
	above, _ := tree.Pair(sc, left, right)
	return pairing{left, right, above}
}

// clashes tells whether two pairings make one node of unlike ones.
func (p pairing) clashes(other pairing) bool {
	return p != other && p.above == other.above
}

// text is what the node above is the digest of.
func (p pairing) text() []byte { return slices.Concat(p.left[:], p.right[:]) }

// pairings answers the pairings by which an answer is led upwards, from the lowest level on and at each from the left: those of the row, then one for each uncle.
func pairings(sc api.Scale, q api.Query, hashes []api.Hash) []pairing {
	all := make([]pairing, 0, len(hashes)-1)
	for waiting := slices.Clone(hashes[:q.Length]); len(waiting) > 1; {
		p := pair(sc, waiting[0], waiting[1])
		all = append(all, p)
		waiting = append(waiting[2:], p.above)
	}
	place := q.Index / q.Length
	for _, uncle := range hashes[q.Length:] {
		left, right := top(all), uncle
		if place%2 == 1 {
			left, right = right, left
		}
		all = append(all, pair(sc, left, right))
		place /= 2
	}
	return all
}

// top is the node to which pairings lead. There is a last one: a row has two hashes or more.
func top(all []pairing) api.Hash { return all[len(all)-1].above }

// Collide answers two unlike texts of one digest, out of two unlike contents of one root.
func Collide(sc api.Scale, a, b []byte) ([]byte, []byte, api.Errno) {
	if e := digest.Good(sc); e != api.OK {
		return nil, nil, e
	}
	if len(a) != len(b) {
		return nil, nil, api.ErrApart
	}
	if bytes.Equal(a, b) {
		return nil, nil, api.ErrSame
	}
	// Contents that are not the same are not empty: a root can only be refused for its leaves.
	leaves, e := tree.Leaves(sc, a)
	if e != api.OK {
		return nil, nil, e
	}
	others, _ := tree.Leaves(sc, b)
	x, y := newLayer(sc, 0, leaves), newLayer(sc, 0, others)
	u, v := blockClash(x, y, a, b)
	for len(x.row) > 1 {
		overX, overY := x.raised(x.level+1), y.raised(y.level+1)
		if u == nil {
			u, v = nodeClash(x, y, overX, overY)
		}
		x, y = overX, overY
	}
	if x.row[0] != y.row[0] {
		return nil, nil, api.ErrApart
	}
	// What is unlike below has become one on the way up to the one root, so u and v were found.
	return u, v, api.OK
}

// blockClash answers the first two blocks that are unlike and have one leaf; nil, if there are none. The leaves are those of a and b.
func blockClash(x, y layer, a, b []byte) ([]byte, []byte) {
	for i, leaf := range x.row {
		from := i * x.sc.Block
		to := min(from+x.sc.Block, len(a))
		if leaf == y.row[i] && !bytes.Equal(a[from:to], b[from:to]) {
			return bytes.Clone(a[from:to]), bytes.Clone(b[from:to])
		}
	}
	return nil, nil
}

// nodeClash answers the texts of the first two pairings that clash, between the layers x and y of two trees and those over them; nil, if there are none.
func nodeClash(x, y, overX, overY layer) ([]byte, []byte) {
	for place := range overX.row {
		p, other := x.pairing(overX, place), y.pairing(overY, place)
		if p.clashes(other) {
			return p.text(), other.text()
		}
	}
	return nil, nil
}

// pairing is the one that makes the node at a place of the layer over this one.
func (l layer) pairing(over layer, place int) pairing {
	return pairing{l.node(2 * place), l.node(2*place + 1), over.node(place)}
}

// Betray answers two unlike texts of one digest, out of a false answer that leads to the root.
func Betray(sc api.Scale, low int, nodes []api.Hash, q api.Query, hashes []api.Hash) ([]byte, []byte, api.Errno) {
	if e := Verify(sc, len(nodes), low, q, hashes); e != api.OK {
		return nil, nil, e
	}
	// The right answer is led through the tree's own nodes, up to its root.
	right := pairings(sc, q, answer(sc, low, nodes, q))
	if top(right) != q.Root {
		return nil, nil, api.ErrApart
	}
	given := pairings(sc, q, hashes)
	for i, p := range right {
		if p.clashes(given[i]) {
			return p.text(), given[i].text(), api.OK
		}
	}
	// A hash that is not the tree's would have made a clash on its way to the one root.
	return nil, nil, api.ErrSame
}
