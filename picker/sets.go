package picker

import (
	"cmp"
	"iter"
	"math/bits"
	"slices"
)

// set is a set of ordered keys, kept rising.
type set[K cmp.Ordered] []K

// has tells whether a key is in the set.
func (s set[K]) has(k K) bool {
	_, ok := slices.BinarySearch(s, k)
	return ok
}

// with is the set and one key more; the old one is used up.
func (s set[K]) with(k K) set[K] {
	at, ok := slices.BinarySearch(s, k)
	if ok {
		return s
	}
	return slices.Insert(s, at, k)
}

// without is the set but for one key; the old one is used up.
func (s set[K]) without(k K) set[K] {
	at, ok := slices.BinarySearch(s, k)
	if !ok {
		return s
	}
	return slices.Delete(s, at, at+1)
}

// list is the keys, rising, in memory of their own.
func (s set[K]) list() []K { return slices.Clone([]K(s)) }

// marks is a set of low numbers (pieces, or blocks of one), a bit each: what two sets have in common is found 64 numbers at a time.
type marks struct {
	words []uint64
	count int
}

// has tells whether a number is marked.
func (m marks) has(i int) bool {
	return i/64 < len(m.words) && m.words[i/64]>>(i%64)&1 == 1
}

// put marks a number, or takes its mark away.
func (m *marks) put(i int, on bool) {
	if m.has(i) == on {
		return
	}
	if lack := i/64 + 1 - len(m.words); lack > 0 {
		m.words = append(m.words, make([]uint64, lack)...)
	}
	m.words[i/64] ^= 1 << (i % 64)
	if on {
		m.count++
	} else {
		m.count--
	}
}

// both goes through the numbers that two sets have in common, rising.
func (m marks) both(o marks) iter.Seq[int] {
	return func(yield func(int) bool) {
		for w := range min(len(m.words), len(o.words)) {
			for x := m.words[w] & o.words[w]; x != 0; x &= x - 1 {
				if !yield(64*w + bits.TrailingZeros64(x)) {
					return
				}
			}
		}
	}
}

// all goes through the numbers, rising.
func (m marks) all() iter.Seq[int] { return m.both(m) }

// lowest is the lowest number that two sets have in common; -1, if there is none.
func (m marks) lowest(o marks) int {
	for i := range m.both(o) {
		return i
	}
	return -1
}
