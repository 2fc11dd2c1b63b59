package vault

import (
	"iter"
	"slices"

	"torrent/api"
)

// Each place begins with the number of the next one.
const (
	nextSize = 4
	room     = api.Sector - nextSize
)

// placesOf is how many places a chain of n bytes has.
func placesOf(n int) int { return (n + room - 1) / room }

// chain is bytes that lie in places.
type chain struct {
	data   []byte
	sum    sum
	places []int
}

// start is the number by which a chain is led to. It is never 0 where there is a place.
func (c chain) start() int {
	if len(c.places) == 0 {
		return 0
	}
	return c.places[0] + 1
}

// lead says where a chain begins, and what it holds.
type lead struct {
	start, size int
	sum         sum
}

// leadSize is how many bytes a lead takes, in a head and in a directory.
const leadSize = 4 + 4 + len(sum{})

func (c chain) lead() lead { return lead{c.start(), len(c.data), c.sum} }

// text is the bytes of a lead.
func (l lead) text() [leadSize]byte {
	var b [leadSize]byte
	setNumber(b[:], l.start)
	setNumber(b[4:], l.size)
	copy(b[8:], l.sum[:])
	return b
}

// leadIn is the lead that these bytes tell.
func leadIn(b [leadSize]byte) lead { return lead{numberIn(b[:]), numberIn(b[4:]), sum(b[8:])} }

// links goes through a chain, place by place, with what lies there. It follows the numbers wherever they lead, out of the area and round and round: who ranges over it leaves it at a place that is not there, or that was met before.
func (a area) links(start int) iter.Seq2[int, []byte] {
	return func(yield func(int, []byte) bool) {
		for next := start; next != 0; {
			place := next - 1
			b := a.read(heads + place)
			if !yield(place, b[nextSize:]) {
				return
			}
			next = numberIn(b[:])
		}
	}
}

// reader reads the chains that one head leads to.
type reader struct {
	area
	met []bool // by place: it is in a chain that was read
}

// follow is the chain that a lead leads to, if that is right.
func (r reader) follow(to lead) (chain, bool) {
	c := chain{sum: to.sum}
	for place, part := range r.links(to.start) {
		left := to.size - len(c.data)
		if place >= r.places() || r.met[place] || left == 0 {
			return chain{}, false
		}
		r.met[place] = true
		c.places = append(c.places, place)
		c.data = append(c.data, part[:min(room, left)]...)
	}
	if len(c.data) != to.size || sumOf(c.data) != to.sum {
		return chain{}, false
	}
	return c, true
}

// writer lays chains into free places.
type writer struct {
	area
	free []int // the places that are left, rising
}

// lay writes bytes, which no one may change from then on, into the lowest places that are left; there are enough.
func (w *writer) lay(data []byte) (chain, api.Errno) {
	n := placesOf(len(data))
	c := chain{data: data, sum: sumOf(data), places: slices.Clone(w.free[:n])}
	w.free = w.free[n:]
	for i, place := range c.places {
		var b sector
		if i+1 < n {
			setNumber(b[:], c.places[i+1]+1)
		}
		copy(b[nextSize:], data[i*room:])
		if e := w.write(heads+place, b); e != api.OK {
			return chain{}, e
		}
	}
	return c, api.OK
}
