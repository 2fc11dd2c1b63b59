package tree

import (
	"slices"

	"torrent/api"
	"torrent/digest"
)

// Builder makes a file's root and piece layer out of bytes that come bit by bit.
type Builder struct {
	sc    api.Scale
	per   int        // leaves of a whole piece
	size  int        // bytes taken
	whole int        // whole pieces taken
	row   []api.Hash // the whole pieces' hashes, then the leaves of the whole blocks behind them
	rest  []byte     // the bytes behind the last whole block
}

// New is a builder of nothing yet.
func New(sc api.Scale, pieceLen int) (*Builder, api.Errno) {
	if e := checkPieceLen(sc, pieceLen); e != api.OK {
		return nil, e
	}
	return &Builder{sc: sc, per: pieceLen / sc.Block}, api.OK
}

// ready tells whether the builder is there; one that New has not made has no good scale.
func (b *Builder) ready() api.Errno {
	if b == nil {
		return api.ErrNil
	}
	return digest.Good(b.sc)
}

// Write takes more bytes.
func (b *Builder) Write(p []byte) api.Errno {
	if e := b.ready(); e != api.OK {
		return e
	}
	if len(p) > api.MaxNodes*b.sc.Block-b.size {
		return api.ErrMany
	}
	b.size += len(p)
	fit := min(len(p), b.sc.Block-len(b.rest))
	b.rest = append(b.rest, p[:fit]...)
	if len(b.rest) == b.sc.Block {
		b.take(b.rest)
		b.rest = append(b.rest[:0], eachBlock(b.sc, p[fit:], b.take)...)
	}
	return api.OK
}

// take puts a whole block behind the others. The leaves of a piece that is whole by it give way to the piece's hash.
func (b *Builder) take(block []byte) {
	b.row = append(b.row, hash(b.sc, block))
	_, leaves := b.subtrees()
	if len(leaves) == b.per {
		b.row = append(b.row[:b.whole], climb(b.sc, leaves, 0, b.level())...)
		b.whole++
	}
}

// level is the height at which the pieces' hashes stand.
func (b *Builder) level() int { return rise(b.per) }

// subtrees answers the hashes of the whole pieces and the leaves behind them: parts of the builder's row without spare room, since what is appended to the pieces would else be written over the leaves.
func (b *Builder) subtrees() (pieces, leaves []api.Hash) {
	return b.row[:b.whole:b.whole], b.row[b.whole:len(b.row):len(b.row)]
}

// allLeaves answers the leaves behind the whole pieces, that of the unfinished block among them.
func (b *Builder) allLeaves() []api.Hash {
	_, leaves := b.subtrees()
	if len(b.rest) > 0 {
		leaves = append(leaves, hash(b.sc, b.rest))
	}
	return leaves
}

// allPieces answers the hashes of the pieces, that of the unfinished one among them. If there is no such one, they are the builder's own row.
func (b *Builder) allPieces() []api.Hash {
	pieces, _ := b.subtrees()
	return append(pieces, climb(b.sc, b.allLeaves(), 0, b.level())...)
}

// Len tells how many bytes were written.
func (b *Builder) Len() int {
	if b == nil {
		return 0
	}
	return b.size
}

// Root is the root of what was written.
func (b *Builder) Root() (api.Hash, api.Errno) {
	if e := b.ready(); e != api.OK {
		return api.Hash{}, e
	}
	if b.whole == 0 {
		// A file that is shorter than a piece is not filled up to one.
		return Root(b.sc, b.allLeaves(), 0)
	}
	return Root(b.sc, b.allPieces(), b.level())
}

// Layer is the piece layer of what was written.
func (b *Builder) Layer() ([]api.Hash, api.Errno) {
	if e := b.ready(); e != api.OK {
		return nil, e
	}
	if b.size <= b.per*b.sc.Block {
		return nil, api.OK
	}
	return slices.Clone(b.allPieces()), api.OK
}
