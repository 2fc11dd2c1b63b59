package create

import (
	"bytes"

	"torrent/api"
	"torrent/tree"
)

// isLarge tells whether a file has a piece layer.
func isLarge(pieceLen, n int) bool { return n > pieceLen }

// byRoot orders layers about a root.
func byRoot(l api.Layer, root api.Hash) int { return bytes.Compare(l.Root[:], root[:]) }

// told answers the hashes of a file's pieces, or nothing, if the metainfo does not tell them. It has been looked over: its layers rise, and a layer has a hash for each piece of its files.
func told(m api.Meta, f api.File) []api.Hash {
	if !isLarge(m.PieceLen, f.Len) {
		return []api.Hash{f.Root}
	}
	return spread(sought(m.Layers, f.Root, byRoot), func(l api.Layer) []api.Hash { return l.Hashes })
}

// wanted answers a piece's hash out of those that are told of its file.
func wanted(hashes []api.Hash, at api.Place) (api.Hash, bool) {
	if len(hashes) == 0 {
		return api.Hash{}, false
	}
	return hashes[at.Nth], true
}

// listed answers what is to be known of each piece.
func listed(sc api.Scale, m api.Meta, p plan) []api.Piece {
	return spread(p.runs, func(r run) []api.Piece {
		hashes := told(m, m.Files[r.file])
		return turned(p.places(r), func(at api.Place) api.Piece {
			h, known := wanted(hashes, at)
			return api.Piece{Len: at.Len, Leaves: leaves(sc, p.pieceLen, r), Known: known, Hash: h}
		})
	})
}

// leaves tells how many leaves the tree of each of a file's pieces has: where the piece is the whole file, its tree is the file's own.
func leaves(sc api.Scale, pieceLen int, r run) int {
	if isLarge(pieceLen, r.bytes) {
		return pieceLen / sc.Block
	}
	height, _ := tree.Height(parts(r.bytes, sc.Block))
	return 1 << height
}
