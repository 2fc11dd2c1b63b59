package create

import (
	"slices"

	"torrent/api"
	"torrent/names"
	"torrent/tree"
)

// hashed is a file as the metainfo tells it, and its piece layer, which is empty if it is not large.
type hashed struct {
	file  api.File
	layer []api.Hash
}

// made makes the metainfo of files. It has not been looked over yet.
func made(sc api.Scale, name string, pieceLen int, files []api.Source) (api.Meta, api.Errno) {
	if e := measured(sc, pieceLen); e != api.OK {
		return api.Meta{}, e
	}
	if e := names.Component(name); e != api.OK {
		return api.Meta{}, e
	}
	sorted, e := ordered(files)
	if e != api.OK {
		return api.Meta{}, e
	}
	if e := counted(sc, pieceLen, sorted); e != api.OK {
		return api.Meta{}, e
	}
	all := turned(sorted, func(s api.Source) hashed { return hashedFile(sc, pieceLen, s) })
	layers, e := joined(all)
	if e != api.OK {
		return api.Meta{}, e
	}
	told := turned(all, func(h hashed) api.File { return h.file })
	return api.Meta{Name: name, PieceLen: pieceLen, Files: told, Layers: layers}, api.OK
}

// ordered answers the files in the order of their paths.
func ordered(files []api.Source) ([]api.Source, api.Errno) {
	if len(files) == 0 {
		return nil, api.ErrMetaTree
	}
	order, e := names.Order(turned(files, func(s api.Source) []string { return s.Path }))
	if e != api.OK {
		return nil, e
	}
	return turned(order, func(i int) api.Source { return files[i] }), api.OK
}

// counted tells whether there are too many blocks or pieces, ahead of all hashing.
func counted(sc api.Scale, pieceLen int, files []api.Source) api.Errno {
	tooLong := func(s api.Source) bool { return parts(len(s.Data), sc.Block) > api.MaxNodes }
	if slices.ContainsFunc(files, tooLong) {
		return api.ErrMany
	}
	bare := turned(files, func(s api.Source) api.File { return api.File{Len: len(s.Data)} })
	_, e := mapped(api.Meta{PieceLen: pieceLen, Files: bare})
	return e
}

// hashedFile hashes a file of which is known that the tree takes it. The bytes of a large one are hashed once: the root over its piece layer is its own.
func hashedFile(sc api.Scale, pieceLen int, s api.Source) hashed {
	h := hashed{file: api.File{Path: slices.Clone(s.Path), Len: len(s.Data)}}
	if isLarge(pieceLen, len(s.Data)) {
		h.layer, _ = tree.PieceLayer(sc, pieceLen, s.Data)
		h.file.Root, _ = tree.LayerRoot(sc, pieceLen, len(s.Data), h.layer)
		return h
	}
	// An empty file has no tree; with the error comes the zero hash, which is its Root.
	h.file.Root, _ = tree.FileRoot(sc, s.Data)
	return h
}

// joined answers one layer for each root of a large file, the roots rising.
func joined(files []hashed) ([]api.Layer, api.Errno) {
	layers := spread(files, func(h hashed) []api.Layer {
		if len(h.layer) == 0 {
			return nil
		}
		return []api.Layer{{Root: h.file.Root, Hashes: h.layer}}
	})
	slices.SortFunc(layers, func(a, b api.Layer) int { return byRoot(a, b.Root) })
	for i := 1; i < len(layers); i++ {
		if sameRoot(layers[i-1], layers[i]) && !slices.Equal(layers[i-1].Hashes, layers[i].Hashes) {
			return nil, api.ErrMetaLayer
		}
	}
	return slices.CompactFunc(layers, sameRoot), api.OK
}

func sameRoot(a, b api.Layer) bool { return a.Root == b.Root }
