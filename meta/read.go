package meta

import (
	"slices"

	"torrent/api"
	"torrent/bencode"
	"torrent/digest"
	"torrent/names"
)

// read is Parse, with the errors as they are inside.
func read(sc api.Scale, b []byte) (api.Meta, error) {
	if err := below(digest.Good(sc)); err != nil {
		return api.Meta{}, at("the scale", err)
	}
	whole, _, e := bencode.Decode(b)
	if err := below(e); err != nil {
		return api.Meta{}, at("the text", err)
	}
	// What is no dictionary has no pairs.
	info, isInfo := findKind(whole.Dict, keyInfo, api.KindDict)
	layers, isLayers := findKind(whole.Dict, keyLayers, api.KindDict)
	if !isInfo || !isLayers {
		return api.Meta{}, at("the outermost dictionary", errShape)
	}
	m, err := readInfo(sc, info.Dict)
	if err != nil {
		return api.Meta{}, err
	}
	if m.Layers, err = readLayers(sc, m, layers.Dict); err != nil {
		return api.Meta{}, err
	}
	m.Top = free(whole.Dict, ofTop)
	return m, nil
}

// readInfo reads the info dictionary.
func readInfo(sc api.Scale, info []api.Pair) (api.Meta, error) {
	const where = "the info dictionary"
	if slices.ContainsFunc(info, func(p api.Pair) bool { return ofFirst(p.Key) }) {
		return api.Meta{}, at(where, errHybrid)
	}
	files, isFiles := findKind(info, keyTree, api.KindDict)
	which, isWhich := findKind(info, keyVersion, api.KindInt)
	name, isName := findKind(info, keyName, api.KindStr)
	piece, isPiece := findKind(info, keyPiece, api.KindInt)
	switch {
	case !isFiles || !isWhich || !isName || !isPiece:
		return api.Meta{}, at(where, errShape)
	case which.Int != version:
		return api.Meta{}, at(where, errVersion)
	case !isPieceLen(sc, piece.Int):
		return api.Meta{}, at(where, errPiece)
	}
	if err := below(names.Component(name.Str)); err != nil {
		return api.Meta{}, at("the name", err)
	}
	w := walk{sc: sc}
	if err := w.folder(nil, files.Dict); err != nil {
		return api.Meta{}, err
	}
	m := api.Meta{Name: name.Str, PieceLen: piece.Int, Files: w.files, Info: free(info, ofInfo)}
	if len(m.Files) > api.MaxFiles || tooManyPieces(m) {
		return api.Meta{}, at("the file tree", below(api.ErrPathMany))
	}
	return m, nil
}

// readLayers reads the piece layers of a metainfo of which all else is known.
func readLayers(sc api.Scale, m api.Meta, pairs []api.Pair) ([]api.Layer, error) {
	large := largeFiles(m)
	var layers []api.Layer
	for _, p := range pairs {
		root, isRoot := hashOf(sc, p.Key)
		hashes, areHashes := hashesOf(p.Val)
		l := api.Layer{Root: root, Hashes: hashes}
		if !isRoot || !areHashes || !fits(sc, m, large, l) {
			return nil, at("the piece layers", errLayer)
		}
		layers = append(layers, l)
	}
	return layers, nil
}

// hashOf reads a string that is a hash at the scale.
func hashOf(sc api.Scale, s string) (api.Hash, bool) {
	if len(s) != hashSize {
		return api.Hash{}, false
	}
	h := api.Hash([]byte(s))
	return h, isHash(sc, h)
}

// hashesOf cuts a string into runs of the length of a hash, if it is one that can be cut so.
func hashesOf(v api.Value) ([]api.Hash, bool) {
	if v.Kind != api.KindStr || len(v.Str)%hashSize != 0 {
		return nil, false
	}
	hashes := make([]api.Hash, len(v.Str)/hashSize)
	for i := range hashes {
		copy(hashes[i][:], v.Str[i*hashSize:])
	}
	return hashes, true
}
