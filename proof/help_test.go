package proof_test

import (
	"crypto/sha256"
	"math"
	"math/rand"
	"slices"
	"testing"

	"torrent/api"
)

var (
	own    = api.Scale{Block: 64, Width: 32}
	narrow = api.Scale{Block: 64, Width: 1}
	scales = []api.Scale{own, narrow, {Block: 128, Width: 2}, {Block: 16384, Width: 31}}
	// wrongs are scales that are not good, by their Block or their Width.
	wrongs = []api.Scale{
		{}, {Block: 63, Width: 32}, {Block: 32, Width: 32}, {Block: 96, Width: 1}, {Block: 32768, Width: 32}, {Block: -64, Width: 32},
		{Block: math.MinInt, Width: 32}, {Block: math.MaxInt, Width: 32}, {Block: 64, Width: 0}, {Block: 64, Width: 33}, {Block: 64, Width: math.MinInt}, {Block: 64, Width: math.MaxInt},
	}
	// ends are the numbers at which sums and shifts leave the ints.
	ends = []int{math.MinInt, math.MinInt + 1, math.MinInt + 48, -1 << 62, -1 << 48, -1 << 32, 1 << 32, 1 << 47, 1 << 48, 1<<48 - 2, 1 << 61, 1 << 62, math.MaxInt - 48, math.MaxInt - 1, math.MaxInt}
)

// ask is a query without a root.
func ask(base, index, length, proofs int) api.Query {
	return api.Query{Base: base, Index: index, Length: length, Proofs: proofs}
}

// sum is the digest at a scale, by Go's own SHA-256.
func sum(sc api.Scale, b []byte) api.Hash {
	h := api.Hash(sha256.Sum256(b))
	for i := sc.Width; i < 32; i++ {
		h[i] = 0
	}
	return h
}

func two(sc api.Scale, l, r api.Hash) api.Hash {
	return sum(sc, slices.Concat(l[:], r[:]))
}

// blank is the hash of nothing.
func blank(sc api.Scale, h int) api.Hash {
	if h == 0 {
		return api.Hash{}
	}
	below := blank(sc, h-1)
	return two(sc, below, below)
}

// rise is the least number of doublings that make n or more out of 1.
func rise(n int) int {
	h := 0
	for 1<<h < n {
		h++
	}
	return h
}

// grown is a tree written out: layer by layer from the level low on, each with all its nodes.
func grown(sc api.Scale, low int, nodes []api.Hash) [][]api.Hash {
	at := slices.Clone(nodes)
	for nothing := blank(sc, low); len(at) < 1<<rise(len(nodes)); {
		at = append(at, nothing)
	}
	all := [][]api.Hash{at}
	for len(at) > 1 {
		var up []api.Hash
		for i := 0; i < len(at); i += 2 {
			up = append(up, two(sc, at[i], at[i+1]))
		}
		all, at = append(all, up), up
	}
	return all
}

// answered is the answer to a query, picked out of a tree that is written out, by the words of the chapter.
func answered(all [][]api.Hash, low int, q api.Query) []api.Hash {
	list := slices.Clone(all[q.Base-low][q.Index : q.Index+q.Length])
	for l := q.Base + rise(q.Length); l <= q.Base+q.Proofs; l++ {
		p := q.Index / (1 << (l - q.Base))
		if p%2 == 0 {
			p++
		} else {
			p--
		}
		list = append(list, all[l-low][p])
	}
	return list
}

// reached is the hash that an answer leads to: the row by halves, then the uncles.
func reached(sc api.Scale, q api.Query, list []api.Hash) api.Hash {
	var fold func(row []api.Hash) api.Hash
	fold = func(row []api.Hash) api.Hash {
		if len(row) == 1 {
			return row[0]
		}
		half := len(row) / 2
		return two(sc, fold(row[:half]), fold(row[half:]))
	}
	at := fold(list[:q.Length])
	for i, uncle := range list[q.Length:] {
		if (q.Index/q.Length)>>i&1 == 0 {
			at = two(sc, at, uncle)
		} else {
			at = two(sc, uncle, at)
		}
	}
	return at
}

// queries are all that may be asked of a tree, without their root.
func queries(n, low int) []api.Query {
	var all []api.Query
	top := low + rise(n)
	for base := low; base < top; base++ {
		for length := 2; length <= min(512, 1<<(top-base)); length *= 2 {
			for index := 0; index < 1<<(top-base); index += length {
				for proofs := 0; base+proofs < top; proofs++ {
					all = append(all, ask(base, index, length, proofs))
				}
			}
		}
	}
	return all
}

// whole tells whether the answer to a query leads to the root of a tree of that height.
func whole(top int, q api.Query) bool {
	return q.Base+q.Proofs+1 == top || q.Base+rise(q.Length) == top
}

// hashes are n hashes of which all 32 bytes count, at whatever scale.
func hashes(r *rand.Rand, n int) []api.Hash {
	row := make([]api.Hash, n)
	for i := range row {
		r.Read(row[i][:])
		row[i][31] |= 1
	}
	return row
}

func content(r *rand.Rand, n int) []byte {
	b := make([]byte, n)
	r.Read(b)
	return b
}

// isRow fails the test unless a call has answered that row, with OK.
func isRow(t *testing.T, call string, row []api.Hash, e api.Errno, want []api.Hash) {
	t.Helper()
	if e != api.OK || !slices.Equal(row, want) {
		t.Errorf("%s: %d hashes, %d, want %d hashes, or other ones", call, len(row), e, len(want))
	}
}

// noRow fails the test unless a call has answered that error and no row.
func noRow(t *testing.T, call string, row []api.Hash, e, want api.Errno) {
	t.Helper()
	if e != want || len(row) != 0 {
		t.Errorf("%s: %d hashes, %d, want none and %d", call, len(row), e, want)
	}
}

// isHash fails the test unless a call has answered that hash and that error.
func isHash(t *testing.T, call string, h api.Hash, e api.Errno, want api.Hash, wantE api.Errno) {
	t.Helper()
	if e != wantE || h != want {
		t.Errorf("%s: %x, %d, want %x, %d", call, h, e, want, wantE)
	}
}
