package meta

import (
	"slices"
	"strings"

	"torrent/api"
)

// Keys of the format.
const (
	keyInfo    = "info"
	keyLayers  = "piece layers"
	keyTree    = "file tree"
	keyVersion = "meta version"
	keyName    = "name"
	keyPiece   = "piece length"
	keyLength  = "length"
	keyRoot    = "pieces root"
	keyFile    = "" // in a folder's place: what has it is a file
)

// Keys of the first version in the info dictionary; the third is keyLength.
const (
	keyOldFiles  = "files"
	keyOldPieces = "pieces"
)

// version is the one that is taken.
const version = 2

// ofTop tells the keys of the outermost dictionary that are not free.
func ofTop(key string) bool { return key == keyInfo || key == keyLayers }

// ofInfo tells those of the info dictionary.
func ofInfo(key string) bool {
	return key == keyTree || key == keyVersion || key == keyName || key == keyPiece || ofFirst(key)
}

// ofFirst tells those of the info dictionary by which the first version is known.
func ofFirst(key string) bool {
	return key == keyOldFiles || key == keyLength || key == keyOldPieces
}

// ofEntry tells those of a file's entry.
func ofEntry(key string) bool { return key == keyLength || key == keyRoot }

// free answers the pairs with other keys.
func free(pairs []api.Pair, taken func(key string) bool) []api.Pair {
	var others []api.Pair
	for _, p := range pairs {
		if !taken(p.Key) {
			others = append(others, p)
		}
	}
	return others
}

// find answers the value of a key, if there is one.
func find(pairs []api.Pair, key string) (api.Value, bool) {
	i, found := slices.BinarySearchFunc(pairs, key, func(p api.Pair, key string) int {
		return strings.Compare(p.Key, key)
	})
	if !found {
		return api.Value{}, false
	}
	return pairs[i].Val, true
}

// findKind answers the value of a key, if there is one of that kind.
func findKind(pairs []api.Pair, key string, kind int) (api.Value, bool) {
	v, found := find(pairs, key)
	if !found || v.Kind != kind {
		return api.Value{}, false
	}
	return v, true
}
