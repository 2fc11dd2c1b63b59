package session

import "torrent/api"

// layout is where the pieces lie in the files, and what the files lack.
type layout struct {
	scale  api.Scale
	pieces []piece
	files  []file
}

// piece is one of all pieces.
type piece struct{ file, bytes int }

// file is a run of pieces, of which some are not had.
type file struct{ first, count, left int }

// layoutOf lays out a metainfo whose pieces were listed: they lie one behind the other, and nothing is had.
func layoutOf(sc api.Scale, m api.Meta, list []api.Piece) layout {
	l := layout{scale: sc, pieces: make([]piece, len(list))}
	first := 0
	for i, f := range m.Files {
		n := parts(f.Len, m.PieceLen)
		for k := first; k < first+n; k++ {
			l.pieces[k] = piece{file: i, bytes: list[k].Len}
		}
		l.files = append(l.files, file{first: first, count: n, left: n})
		first += n
	}
	return l
}

// parts tells how many parts of a size n bytes have, the last one perhaps shorter.
func parts(n, size int) int { return (n + size - 1) / size }

// gain notes that a piece is had.
func (l *layout) gain(piece int) { l.files[l.pieces[piece].file].left-- }

// isComplete tells whether every piece of a file is had.
func (l *layout) isComplete(file int) bool { return l.files[file].left == 0 }

// lens are the lengths of all pieces.
func (l *layout) lens() []int {
	lens := make([]int, len(l.pieces))
	for i, p := range l.pieces {
		lens[i] = p.bytes
	}
	return lens
}

// blocks tells how many blocks each piece has.
func (l *layout) blocks() []int {
	blocks := l.lens()
	for i, n := range blocks {
		blocks[i] = parts(n, l.scale.Block)
	}
	return blocks
}

// about is an act of a kind that tells of a piece.
func (l *layout) about(kind, piece int) api.Act {
	return api.Act{Kind: kind, Piece: piece, File: l.pieces[piece].file}
}

// naming is a message of a kind that names a block.
func (l *layout) naming(kind int, b api.Block) api.Msg {
	begin := b.Block * l.scale.Block
	n := min(l.scale.Block, l.pieces[b.Piece].bytes-begin)
	return api.Msg{Kind: kind, Index: b.Piece, Begin: begin, Length: n}
}
