package meta

import (
	"bytes"
	"slices"
	"strconv"

	"torrent/api"
	"torrent/bencode"
	"torrent/names"
)

// check looks a metainfo over, at a scale that is good: all that can be seen ahead of its text.
func check(sc api.Scale, m api.Meta) error {
	if !isPieceLen(sc, m.PieceLen) {
		return at("the piece length", errPiece)
	}
	if err := below(names.Component(m.Name)); err != nil {
		return at("the name", err)
	}
	if err := checkFiles(sc, m); err != nil {
		return err
	}
	if err := checkLayers(sc, m); err != nil {
		return err
	}
	if !goodPairs(m.Info, ofInfo) {
		return at("the info dictionary", errMore)
	}
	if !goodPairs(m.Top, ofTop) {
		return at("the outermost dictionary", errMore)
	}
	return nil
}

// checkFiles looks at how many files and pieces there are, and at each file.
func checkFiles(sc api.Scale, m api.Meta) error {
	if len(m.Files) == 0 {
		return at("the files", errTree)
	}
	if len(m.Files) > api.MaxFiles {
		return at("the files", below(api.ErrPathMany))
	}
	for i, f := range m.Files {
		err := checkFile(sc, f)
		if err == nil && i > 0 {
			err = checkBehind(m.Files[i-1].Path, f.Path)
		}
		if err != nil {
			return at("file "+strconv.Itoa(i), err)
		}
	}
	if tooManyPieces(m) {
		return at("the files", below(api.ErrPathMany))
	}
	return nil
}

// checkFile looks at a file by itself.
func checkFile(sc api.Scale, f api.File) error {
	if err := below(names.Path(f.Path)); err != nil {
		return err
	}
	switch {
	case !isLen(f.Len):
		return errLength
	case !isHash(sc, f.Root) || f.Len == 0 && f.Root != api.Hash{}:
		return errRoot
	case !goodPairs(f.More, ofEntry):
		return errMore
	}
	return nil
}

// checkBehind tells whether a path may stand right behind another one.
func checkBehind(ahead, path []string) error {
	if !names.Less(ahead, path) {
		return errOrder
	}
	// Paths that rise go on from a folder right behind it, so that no other two need to be held against each other.
	if len(ahead) < len(path) && slices.Equal(ahead, path[:len(ahead)]) {
		return below(api.ErrPathFolder)
	}
	return nil
}

// checkLayers looks at each layer.
func checkLayers(sc api.Scale, m api.Meta) error {
	large := largeFiles(m)
	for i, l := range m.Layers {
		where := "layer " + strconv.Itoa(i)
		if i > 0 && bytes.Compare(m.Layers[i-1].Root[:], l.Root[:]) >= 0 {
			return at(where, errOrder)
		}
		if !fits(sc, m, large, l) {
			return at(where, errLayer)
		}
	}
	return nil
}

// goodPairs tells whether pairs with free keys may be as they are.
func goodPairs(pairs []api.Pair, taken func(key string) bool) bool {
	for i, p := range pairs {
		rises := i == 0 || pairs[i-1].Key < p.Key
		if !rises || taken(p.Key) || bencode.Valid(p.Val) != api.OK {
			return false
		}
	}
	return true
}
