package create

import (
	"slices"

	"torrent/api"
	"torrent/tree"
)

const maxPieceLen = api.MaxBlock * api.MaxPieceBlocks

// plan is the map of a metainfo: a run of pieces for each file.
type plan struct {
	pieceLen int
	runs     []run
}

// run is the row of pieces that a file has among all pieces.
type run struct{ file, first, count, bytes int }

// parts tells how many parts of a size n bytes have, the last one perhaps shorter.
func parts(n, size int) int { return (n + size - 1) / size }

// mapped lays out the pieces of a metainfo, or tells the fault of the map.
func mapped(m api.Meta) (plan, api.Errno) {
	switch {
	case !mayBePieceLen(m.PieceLen):
		return plan{}, api.ErrMetaPiece
	case len(m.Files) == 0:
		return plan{}, api.ErrMetaTree
	case len(m.Files) > api.MaxFiles:
		return plan{}, api.ErrPathMany
	case slices.ContainsFunc(m.Files, hasNoLen):
		return plan{}, api.ErrMetaLength
	}
	p := laidOut(m)
	if p.pieces() > api.MaxPieces {
		return plan{}, api.ErrPathMany
	}
	return p, api.OK
}

// mayBePieceLen tells whether there is a scale at which this is a piece length.
func mayBePieceLen(n int) bool {
	return n >= api.MinBlock && n <= maxPieceLen && n&(n-1) == 0
}

func hasNoLen(f api.File) bool { return f.Len < 0 || f.Len > api.MaxLen }

// laidOut numbers the pieces through all files. So few files, none of them too long, can't have more pieces than an int counts.
func laidOut(m api.Meta) plan {
	next := run{}
	runs := turned(m.Files, func(f api.File) run {
		r := run{file: next.file, first: next.first, count: parts(f.Len, m.PieceLen), bytes: f.Len}
		next = run{file: r.file + 1, first: r.end()}
		return r
	})
	return plan{pieceLen: m.PieceLen, runs: runs}
}

// end is the number of the first piece that is behind the run.
func (r run) end() int { return r.first + r.count }

// holds orders runs about a piece: 0 just for the one that has it, and so never for the run of an empty file.
func (r run) holds(piece int) int {
	switch {
	case r.end() <= piece:
		return -1
	case r.first > piece:
		return 1
	}
	return 0
}

// pieces tells how many pieces all files have; those of the zero plan are none.
func (p plan) pieces() int {
	if len(p.runs) == 0 {
		return 0
	}
	return p.runs[len(p.runs)-1].end()
}

// place tells where a piece lies.
func (p plan) place(piece int) (api.Place, api.Errno) {
	found := sought(p.runs, piece, run.holds)
	if len(found) == 0 {
		return api.Place{}, api.ErrPiece
	}
	return p.nth(found[0], piece-found[0].first), api.OK
}

// nth tells where a file's piece lies.
func (p plan) nth(r run, nth int) api.Place {
	from := nth * p.pieceLen
	return api.Place{File: r.file, Nth: nth, From: from, Len: min(p.pieceLen, r.bytes-from)}
}

// places tells where all pieces of a file lie.
func (p plan) places(r run) []api.Place {
	all := make([]api.Place, 0, r.count)
	for i := range r.count {
		all = append(all, p.nth(r, i))
	}
	return all
}

// mappedFile answers the map of a metainfo and one file's run.
func mappedFile(m api.Meta, file int) (plan, run, api.Errno) {
	p, e := mapped(m)
	if e != api.OK {
		return plan{}, run{}, e
	}
	if file < 0 || file >= len(p.runs) {
		return plan{}, run{}, api.ErrFile
	}
	return p, p.runs[file], api.OK
}

// measured tells whether the scale is good and a number a piece length at it: the tree of no data asks for both.
func measured(sc api.Scale, pieceLen int) api.Errno {
	_, e := tree.PieceLayer(sc, pieceLen, nil)
	if e == api.ErrPer {
		return api.ErrMetaPiece
	}
	return e
}

// placeAtScale tells where a piece lies, if it has blocks of the scale. A bad scale goes ahead of the map's faults, a piece length that is none at the scale goes behind them.
func placeAtScale(sc api.Scale, m api.Meta, piece int) (api.Place, api.Errno) {
	size := measured(sc, m.PieceLen)
	if size == api.ErrScale {
		return api.Place{}, size
	}
	p, e := mapped(m)
	if e != api.OK {
		return api.Place{}, e
	}
	if size != api.OK {
		return api.Place{}, size
	}
	return p.place(piece)
}
