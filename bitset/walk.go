package bitset

import (
	"iter"
	"slices"

	"torrent/api"
)

// Walk goes through the bits that are set. It goes through a copy: what the caller writes into b later is not seen.
func Walk(n int, b []byte) iter.Seq[int] {
	if Check(n, b) != api.OK {
		return func(yield func(int) bool) {}
	}
	kept := slices.Clone(b)
	return func(yield func(int) bool) {
		for at, x := range kept {
			for j, m := range masks {
				if x&m != 0 && !yield(8*at+j) {
					return
				}
			}
		}
	}
}

// Count tells how many bits are set.
func Count(n int, b []byte) (int, api.Errno) {
	if e := Check(n, b); e != api.OK {
		return 0, e
	}
	count := 0
	for range Walk(n, b) {
		count++
	}
	return count, api.OK
}

// Ones lists the bits that are set.
func Ones(n int, b []byte) ([]int, api.Errno) {
	if e := Check(n, b); e != api.OK {
		return nil, e
	}
	var ones []int
	for i := range Walk(n, b) {
		ones = append(ones, i)
	}
	return ones, api.OK
}

// Runs lists the runs of bits that are set.
func Runs(n int, b []byte) ([]api.Range, api.Errno) {
	if e := Check(n, b); e != api.OK {
		return nil, e
	}
	var runs []api.Range
	end := -1
	for i := range Walk(n, b) {
		if i != end {
			runs = append(runs, api.Range{From: i})
		}
		runs[len(runs)-1].Len++
		end = i + 1
	}
	return runs, api.OK
}

// Next answers the first bit from a place on that is on; n, if there is none.
func Next(n int, b []byte, from int, on bool) (int, api.Errno) {
	if e := Check(n, b); e != api.OK {
		return 0, e
	}
	if from < 0 || from > n {
		return 0, api.ErrIndex
	}
	for i := from; i < n; i++ {
		if has(b, i) == on {
			return i, api.OK
		}
	}
	return n, api.OK
}
