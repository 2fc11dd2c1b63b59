package meta

import (
	"slices"
	"strings"

	"torrent/api"
	"torrent/names"
)

// walk goes over a file tree and gathers its files.
type walk struct {
	sc    api.Scale
	files []api.File
}

// folder goes over the pairs of the folder at that path.
func (w *walk) folder(path []string, pairs []api.Pair) error {
	if len(pairs) == 0 {
		return at("the file tree", errTree)
	}
	for _, p := range pairs {
		if err := w.pair(slices.Concat(path, []string{p.Key}), p.Val); err != nil {
			return err
		}
	}
	return nil
}

// pair takes what a path leads to. The path is the walk's to keep.
func (w *walk) pair(path []string, v api.Value) error {
	if err := checkStep(path, v); err != nil {
		return at(strings.Join(path, "/"), err)
	}
	if v.Dict[0].Key != keyFile {
		return w.folder(path, v.Dict)
	}
	f, err := readEntry(w.sc, v.Dict[0].Val)
	if err != nil {
		return at(strings.Join(path, "/"), err)
	}
	f.Path = path
	w.files = append(w.files, f)
	return nil
}

// checkStep tells whether the last step of a path may be, and whether it leads to a file or to a folder.
func checkStep(path []string, v api.Value) error {
	key := path[len(path)-1]
	if key == keyFile {
		return errTree
	}
	if err := below(names.Component(key)); err != nil {
		return err
	}
	if len(path) > api.MaxPath {
		return below(api.ErrPathDeep)
	}
	// What is no dictionary has no pairs, and the empty key is the first, if there is one.
	if len(v.Dict) == 0 || len(v.Dict) > 1 && v.Dict[0].Key == keyFile {
		return errTree
	}
	return nil
}

// readEntry reads a file's entry: all of the file but its path.
func readEntry(sc api.Scale, v api.Value) (api.File, error) {
	length, isLength := findKind(v.Dict, keyLength, api.KindInt)
	if !isLength {
		return api.File{}, errTree
	}
	if !isLen(length.Int) {
		return api.File{}, errLength
	}
	root, err := readRoot(sc, v.Dict, length.Int)
	if err != nil {
		return api.File{}, err
	}
	return api.File{Len: length.Int, Root: root, More: free(v.Dict, ofEntry)}, nil
}

// readRoot reads the root of a file of that many bytes; an empty one has none.
func readRoot(sc api.Scale, entry []api.Pair, length int) (api.Hash, error) {
	v, found := find(entry, keyRoot)
	if length == 0 {
		if found {
			return api.Hash{}, errRoot
		}
		return api.Hash{}, nil
	}
	// What is no string, or is not there, has no bytes.
	root, isRoot := hashOf(sc, v.Str)
	if !isRoot {
		return api.Hash{}, errRoot
	}
	return root, nil
}
