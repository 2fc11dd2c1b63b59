package proof

import (
	"math/bits"

	"torrent/api"
	"torrent/tree"
)

// Check tells whether a query may be asked of a tree with n nodes at the level low.
func Check(n, low int, q api.Query) api.Errno {
	top, e := height(n, low)
	if e != api.OK {
		return e
	}
	return checkBetween(low, top, q)
}

// height is the level of the root of a tree with n nodes at the level low.
func height(n, low int) (int, api.Errno) {
	if n < 1 || n > api.MaxNodes {
		return 0, api.ErrNodes
	}
	rise, _ := tree.Height(n)
	if low < 0 || low > api.MaxLevel-rise {
		return 0, api.ErrLevel
	}
	return low + rise, api.OK
}

// checkBetween tells whether a query may be asked of a tree that is known from the level low on and has its root at top.
func checkBetween(low, top int, q api.Query) api.Errno {
	switch {
	case q.Base < low || q.Base >= top:
		return api.ErrBase
	case q.Length < 2 || q.Length > api.MaxHashes || bits.OnesCount(uint(q.Length)) != 1:
		return api.ErrLength
	case q.Index < 0 || q.Index%q.Length != 0 || q.Index > 1<<(top-q.Base)-q.Length:
		return api.ErrRange
	case q.Proofs < 0 || q.Proofs >= top-q.Base:
		return api.ErrProofs
	}
	return api.OK
}

// Amount tells how many hashes the answer has.
func Amount(q api.Query) (int, api.Errno) {
	if e := checkBetween(0, api.MaxLevel, q); e != api.OK {
		return 0, e
	}
	return amount(q), api.OK
}

// amount, rowRise and uncles are told queries that were looked over.
func amount(q api.Query) int { return q.Length + uncles(q) }

// rowRise tells how many levels the one node above the row stands higher than the row.
func rowRise(q api.Query) int { return bits.TrailingZeros(uint(q.Length)) }

func uncles(q api.Query) int { return max(0, q.Proofs-rowRise(q)+1) }

// Top answers the node to which the answer leads: its level, its place there.
func Top(n, low int, q api.Query) (int, int, api.Errno) {
	if e := Check(n, low, q); e != api.OK {
		return 0, 0, e
	}
	rise := rowRise(q) + uncles(q)
	return q.Base + rise, q.Index >> rise, api.OK
}

// Plan answers the queries that fetch the whole layer at the level low.
func Plan(n, low int, root api.Hash) ([]api.Query, api.Errno) {
	top, e := height(n, low)
	if e != api.OK || n == 1 {
		return nil, e
	}
	q := api.Query{Root: root, Base: low, Length: min(api.Chunk, 1<<(top-low)), Proofs: top - 1 - low}
	var all []api.Query
	for ; q.Index < n; q.Index += q.Length {
		all = append(all, q)
	}
	return all, api.OK
}
