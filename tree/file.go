package tree

import (
	"math/bits"

	"torrent/api"
	"torrent/digest"
)

// Leaves answers the hashes of the blocks.
func Leaves(sc api.Scale, data []byte) ([]api.Hash, api.Errno) {
	if e := digest.Good(sc); e != api.OK {
		return nil, e
	}
	if runs(len(data), sc.Block) > api.MaxNodes {
		return nil, api.ErrMany
	}
	return leafRow(sc, data), api.OK
}

// leafRow is Leaves of what was looked over.
func leafRow(sc api.Scale, data []byte) []api.Hash {
	row := make([]api.Hash, 0, runs(len(data), sc.Block))
	take := func(block []byte) { row = append(row, hash(sc, block)) }
	if rest := eachBlock(sc, data, take); len(rest) > 0 {
		take(rest)
	}
	return row
}

// runs answers into how many runs of that size n bytes are cut; the last one may be shorter.
func runs(n, size int) int { return (n + size - 1) / size }

// eachBlock hands the whole blocks of data to take, in their order, and answers the bytes behind them: a part of data itself.
func eachBlock(sc api.Scale, data []byte, take func(block []byte)) []byte {
	for len(data) >= sc.Block {
		take(data[:sc.Block])
		data = data[sc.Block:]
	}
	return data
}

// FileRoot is the root of a file's bytes.
func FileRoot(sc api.Scale, data []byte) (api.Hash, api.Errno) {
	leaves, e := Leaves(sc, data)
	if e != api.OK {
		return api.Hash{}, e
	}
	return Root(sc, leaves, 0)
}

// PieceRoot is the root of a tree of just so many leaves over a piece's bytes.
func PieceRoot(sc api.Scale, data []byte, leaves int) (api.Hash, api.Errno) {
	if e := digest.Good(sc); e != api.OK {
		return api.Hash{}, e
	}
	switch {
	case leaves < 1 || leaves > api.MaxNodes || !powerOfTwo(leaves):
		return api.Hash{}, api.ErrPer
	case len(data) == 0:
		return api.Hash{}, api.ErrEmpty
	case runs(len(data), sc.Block) > leaves:
		return api.Hash{}, api.ErrFit
	}
	return climb(sc, leafRow(sc, data), 0, rise(leaves))[0], api.OK
}

// powerOfTwo tells it of a number that is at least 1.
func powerOfTwo(n int) bool { return bits.OnesCount(uint(n)) == 1 }

// PieceLayer answers the hashes of a file's pieces.
func PieceLayer(sc api.Scale, pieceLen int, data []byte) ([]api.Hash, api.Errno) {
	if e := checkPieceLen(sc, pieceLen); e != api.OK {
		return nil, e
	}
	if runs(len(data), sc.Block) > api.MaxNodes {
		return nil, api.ErrMany
	}
	if len(data) <= pieceLen {
		return nil, api.OK
	}
	return climb(sc, leafRow(sc, data), 0, rise(pieceLen/sc.Block)), api.OK
}

// checkPieceLen tells whether the scale is good and pieceLen a piece length at it.
func checkPieceLen(sc api.Scale, pieceLen int) api.Errno {
	if e := digest.Good(sc); e != api.OK {
		return e
	}
	// A block being a power of two, what is that too and no smaller is a block times one.
	if pieceLen < sc.Block || pieceLen > api.MaxPieceBlocks*sc.Block || !powerOfTwo(pieceLen) {
		return api.ErrPer
	}
	return api.OK
}

// LayerRoot is the root of a file of that many bytes above its piece layer.
func LayerRoot(sc api.Scale, pieceLen, fileLen int, layer []api.Hash) (api.Hash, api.Errno) {
	if e := checkPieceLen(sc, pieceLen); e != api.OK {
		return api.Hash{}, e
	}
	if fileLen <= pieceLen || fileLen > api.MaxLen || len(layer) != runs(fileLen, pieceLen) {
		return api.Hash{}, api.ErrFit
	}
	return Root(sc, layer, rise(pieceLen/sc.Block))
}
