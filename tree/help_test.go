package tree_test

import (
	"crypto/sha256"
	"math"
	"math/rand"
	"slices"
	"testing"

	"torrent/api"
)

var (
	own    = api.Scale{Block: 64, Width: 32}
	scales = []api.Scale{own, {Block: 64, Width: 1}, {Block: 128, Width: 2}, {Block: 256, Width: 31}}
	// wrongs are scales that are not good, by their Block or their Width.
	wrongs = []api.Scale{
		{}, {Block: 63, Width: 32}, {Block: 32, Width: 32}, {Block: 65, Width: 32}, {Block: 96, Width: 1}, {Block: 32768, Width: 32}, {Block: -64, Width: 32}, {Block: 0, Width: 32},
		{Block: math.MinInt, Width: 32}, {Block: math.MaxInt, Width: 32}, {Block: 64, Width: 0}, {Block: 64, Width: 33}, {Block: 64, Width: -1}, {Block: 64, Width: math.MinInt}, {Block: 64, Width: math.MaxInt},
	}
	// ends are the numbers at which sums and products leave the ints.
	ends = []int{math.MinInt, math.MinInt + 1, math.MinInt + 48, -1 << 62, -1 << 32, 1 << 32, 1 << 61, 1 << 62, math.MaxInt - 48, math.MaxInt - 20, math.MaxInt - 1, math.MaxInt}
)

// sum is the digest at a scale, by Go's own SHA-256.
func sum(sc api.Scale, b []byte) api.Hash {
	h := api.Hash(sha256.Sum256(b))
	for i := sc.Width; i < 32; i++ {
		h[i] = 0
	}
	return h
}

func two(sc api.Scale, l, r api.Hash) api.Hash {
	return sum(sc, slices.Concat(l[:], r[:]))
}

// blank is the hash of nothing.
func blank(sc api.Scale, h int) api.Hash {
	if h == 0 {
		return api.Hash{}
	}
	below := blank(sc, h-1)
	return two(sc, below, below)
}

// grown is all nodes of the tree over a row at the height f, height by height: the row is filled up with nothing to 2^k nodes, k being at least so much and enough for the row.
func grown(sc api.Scale, row []api.Hash, f, k int) [][]api.Hash {
	for 1<<k < len(row) {
		k++
	}
	at := slices.Clone(row)
	for nothing := blank(sc, f); len(at) < 1<<k; {
		at = append(at, nothing)
	}
	all := [][]api.Hash{at}
	for len(at) > 1 {
		var up []api.Hash
		for len(at) > 0 {
			up = append(up, two(sc, at[0], at[1]))
			at = at[2:]
		}
		all, at = append(all, up), up
	}
	return all
}

// top is the root over a row at the height f, filled up to at least 2^k nodes.
func top(sc api.Scale, row []api.Hash, f, k int) api.Hash {
	all := grown(sc, row, f, k)
	return all[len(all)-1][0]
}

// parts are data cut into runs of n bytes.
func parts(data []byte, n int) [][]byte {
	var all [][]byte
	for at := 0; at < len(data); at += n {
		all = append(all, data[at:min(at+n, len(data))])
	}
	return all
}

// leaves are the digests of the blocks.
func leaves(sc api.Scale, data []byte) []api.Hash {
	var row []api.Hash
	for _, b := range parts(data, sc.Block) {
		row = append(row, sum(sc, b))
	}
	return row
}

// log is the exponent of a power of two.
func log(n int) int {
	k := 0
	for 1<<k < n {
		k++
	}
	return k
}

// layer is a file's piece layer, each hash by its piece alone.
func layer(sc api.Scale, pieceLen int, data []byte) []api.Hash {
	var row []api.Hash
	if len(data) <= pieceLen {
		return row
	}
	for _, p := range parts(data, pieceLen) {
		row = append(row, top(sc, leaves(sc, p), 0, log(pieceLen/sc.Block)))
	}
	return row
}

// hashes are n hashes of which all 32 bytes count, at whatever scale.
func hashes(r *rand.Rand, n int) []api.Hash {
	row := make([]api.Hash, n)
	for i := range row {
		r.Read(row[i][:])
		row[i][31] |= 1
	}
	return row
}

func content(r *rand.Rand, n int) []byte {
	b := make([]byte, n)
	r.Read(b)
	return b
}

// noRow fails the test unless a call has answered that error and no row.
func noRow(t *testing.T, call string, row []api.Hash, e, want api.Errno) {
	t.Helper()
	if e != want || len(row) != 0 {
		t.Errorf("%s: %d hashes, %d, want none and %d", call, len(row), e, want)
	}
}

// noHash fails the test unless a call has answered that error and the zero hash.
func noHash(t *testing.T, call string, h api.Hash, e, want api.Errno) {
	t.Helper()
	if e != want || h != (api.Hash{}) {
		t.Errorf("%s: %x, %d, want the zero hash and %d", call, h, e, want)
	}
}

// isRow fails the test unless a call has answered that row, with OK.
func isRow(t *testing.T, call string, row []api.Hash, e api.Errno, want []api.Hash) {
	t.Helper()
	if e != api.OK || !slices.Equal(row, want) {
		t.Errorf("%s: %d hashes, %d, want %d hashes, or other ones", call, len(row), e, len(want))
	}
}

// isHash fails the test unless a call has answered that hash, with OK.
func isHash(t *testing.T, call string, h api.Hash, e api.Errno, want api.Hash) {
	t.Helper()
	if e != api.OK || h != want {
		t.Errorf("%s: %x, %d, want %x", call, h, e, want)
	}
}
