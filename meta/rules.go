package meta

import (
	"bytes"
	"slices"

	"torrent/api"
	"torrent/digest"
	"torrent/tree"
)

const hashSize = len(api.Hash{})

// isHash tells whether a hash is one at the scale.
func isHash(sc api.Scale, h api.Hash) bool {
	cut, _ := digest.Cut(sc, h)
	return cut == h
}

// isPieceLen tells whether a number is a piece length at the scale.
func isPieceLen(sc api.Scale, n int) bool {
	for may := sc.Block; may <= sc.Block*api.MaxPieceBlocks; may *= 2 {
		if may == n {
			return true
		}
	}
	return false
}

// isLen tells whether a file may have so many bytes.
func isLen(n int) bool { return n >= 0 && n <= api.MaxLen }

// isLarge tells whether a file has a piece layer.
func isLarge(m api.Meta, f api.File) bool { return f.Len > m.PieceLen }

// tooManyPieces tells it of files that are no longer than a file may be, and of which there are not so many that the sum leaves the ints.
func tooManyPieces(m api.Meta) bool {
	sum := 0
	for _, f := range m.Files {
		sum += (f.Len + m.PieceLen - 1) / m.PieceLen
	}
	return sum > api.MaxPieces
}

// largeFiles answers the places of the large files by their roots: several files may have one root.
func largeFiles(m api.Meta) map[api.Hash][]int {
	places := map[api.Hash][]int{}
	for i, f := range m.Files {
		if isLarge(m, f) {
			places[f.Root] = append(places[f.Root], i)
		}
	}
	return places
}

// fits tells whether a layer is one of this torrent: of every large file that has its root.
func fits(sc api.Scale, m api.Meta, large map[api.Hash][]int, l api.Layer) bool {
	for _, i := range large[l.Root] {
		// A layer of another number of pieces has no root here.
		root, e := tree.LayerRoot(sc, m.PieceLen, m.Files[i].Len, l.Hashes)
		if e != api.OK || root != l.Root {
			return false
		}
	}
	foreign := func(h api.Hash) bool { return !isHash(sc, h) }
	return len(large[l.Root]) > 0 && !slices.ContainsFunc(l.Hashes, foreign)
}

// findLayer answers the place of the layer with that root among layers that rise, or the one where it would have to stand.
func findLayer(layers []api.Layer, root api.Hash) (int, bool) {
	return slices.BinarySearchFunc(layers, root, func(l api.Layer, root api.Hash) int {
		return bytes.Compare(l.Root[:], root[:])
	})
}

// lacking tells whether the file's layer is not there, though it has one.
func lacking(m api.Meta, f api.File) bool {
	_, there := findLayer(m.Layers, f.Root)
	return isLarge(m, f) && !there
}
