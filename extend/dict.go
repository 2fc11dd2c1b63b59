package extend

import (
	"slices"
	"strings"

	"torrent/api"
	"torrent/bencode"
)

// dictionary lays those of its own pairs that are told among others whose keys rise.
// The others keep their order, so that the dictionary of such as don't rise, or have one of the own keys, is not valid.
func dictionary(others []api.Pair, own ...api.Pair) api.Value {
	pairs := slices.Clone(others)
	for _, p := range own {
		if isTold(p) {
			at, _ := place(pairs, p.Key)
			pairs = slices.Insert(pairs, at, p)
		}
	}
	return api.Value{Kind: api.KindDict, Dict: pairs}
}

// isTold tells a pair from one without a value: those are made of what is left unsaid.
func isTold(p api.Pair) bool { return p.Val.Kind != 0 }

// numberIf is a pair with a number, or one that is not told.
func numberIf(told bool, key string, n int) api.Pair {
	if !told {
		return api.Pair{Key: key}
	}
	return api.Pair{Key: key, Val: api.Value{Kind: api.KindInt, Int: n}}
}

// textIf is a pair with a string, or one that is not told.
func textIf(told bool, key, text string) api.Pair {
	if !told {
		return api.Pair{Key: key}
	}
	return api.Pair{Key: key, Val: api.Value{Kind: api.KindStr, Str: text}}
}

// place finds a key among pairs whose keys rise: its place, or the one in which a new pair lets them rise.
func place(pairs []api.Pair, key string) (int, bool) {
	return slices.BinarySearchFunc(pairs, key, func(p api.Pair, k string) int { return strings.Compare(p.Key, k) })
}

// copied is new memory for pairs of a valid dictionary, the lists inside their values too.
func copied(pairs []api.Pair) []api.Pair {
	v, _ := bencode.Get(dictionary(pairs), nil)
	return v.Dict
}
