package audit

import (
	"iter"
	"slices"

	"torrent/api"
	"torrent/store"
	"torrent/tree"
)

// piece is where a piece of a metainfo lies.
type piece struct{ number, file, from, bytes int }

// pieces goes through the pieces of a metainfo that can be mapped, in their order.
func pieces(m api.Meta) iter.Seq[piece] {
	return func(yield func(piece) bool) {
		number := 0
		for i, f := range m.Files {
			for from := 0; from < f.Len; from += m.PieceLen {
				if !yield(piece{number: number, file: i, from: from, bytes: min(m.PieceLen, f.Len-from)}) {
					return
				}
				number++
			}
		}
	}
}

// of answers the bytes of the piece in those of a file, if that has it at its place.
func (p piece) of(data []byte) ([]byte, bool) {
	if len(data) < p.from+p.bytes {
		return nil, false
	}
	return data[p.from : p.from+p.bytes], true
}

// right tells whether these are the bytes that the piece's hash is of.
func right(sc api.Scale, b []byte, told api.Piece) bool {
	h, e := tree.PieceRoot(sc, b, told.Leaves)
	return e == api.OK && h == told.Hash
}

// state is what is found of the piece in the bytes of its file's namesake.
func (p piece) state(sc api.Scale, told api.Piece, data []byte) int {
	b, there := p.of(data)
	switch {
	case !there:
		return api.FoundAbsent
	case !told.Known:
		return api.FoundUnknown
	case right(sc, b, told):
		return api.FoundRight
	}
	return api.FoundWrong
}

// lacks tells the store the piece's hash: is it lacking even so? Of a piece that is there Learn says that it is, or knows another hash; either way it changes nothing.
func (p piece) lacks(s *store.Store, told api.Piece) bool {
	if !told.Known {
		return false
	}
	there, e := s.Learn(p.number, told.Hash)
	return !there && e == api.OK
}

// bring puts the first bytes that are right into the store; did the piece come?
func (p piece) bring(sc api.Scale, s *store.Store, told api.Piece, candidates iter.Seq[[]byte]) bool {
	for data := range candidates {
		if b, there := p.of(data); there && right(sc, b, told) {
			return p.put(sc, s, b)
		}
	}
	return false
}

// put lays the blocks of the piece into the store. What the store refuses of them is lacking at Finish.
func (p piece) put(sc api.Scale, s *store.Store, b []byte) bool {
	begin := 0
	for block := range slices.Chunk(b, sc.Block) {
		s.Put(p.number, begin, block)
		begin += len(block)
	}
	return s.Finish(p.number) == api.OK
}

// text is what a store has of a file.
type text struct {
	data []byte
	torn bool // a piece of it could not be read
}

// read appends the bytes of a piece; behind one that could not be read the others are not asked for.
func (t *text) read(s *store.Store, p piece) {
	if t.torn {
		return
	}
	b, e := s.Read(p.number, 0, p.bytes)
	t.torn = e != api.OK
	t.data = append(t.data, b...)
}
