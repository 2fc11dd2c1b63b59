package meta

import (
	"slices"
	"strings"

	"torrent/api"
	"torrent/bencode"
	"torrent/digest"
)

// write is Print, with the errors as they are inside.
func write(sc api.Scale, m api.Meta) ([]byte, error) {
	if err := below(digest.Good(sc)); err != nil {
		return nil, at("the scale", err)
	}
	if err := check(sc, m); err != nil {
		return nil, err
	}
	text, e := bencode.Encode(wholeValue(m))
	return text, at("the whole", below(e))
}

// supply is Supply, with the errors as they are inside.
func supply(sc api.Scale, m api.Meta, file int, hashes []api.Hash) (api.Meta, error) {
	if _, err := write(sc, m); err != nil {
		return api.Meta{}, err
	}
	if file < 0 || file >= len(m.Files) {
		return api.Meta{}, at("the files", errPlace)
	}
	f := m.Files[file]
	if !lacking(m, f) {
		return api.Meta{}, at("the file", errLayer)
	}
	place, _ := findLayer(m.Layers, f.Root)
	m.Layers = slices.Insert(slices.Clone(m.Layers), place, api.Layer{Root: f.Root, Hashes: hashes})
	text, err := write(sc, m)
	if err != nil {
		return api.Meta{}, err
	}
	// What is read out of its text is the same metainfo, and all of it is new memory.
	return read(sc, text)
}

// wholeValue is the value of a metainfo that was looked over. It shares memory with it.
func wholeValue(m api.Meta) api.Value {
	info := dict(m.Info,
		api.Pair{Key: keyTree, Val: folderValue(m.Files, 0)},
		api.Pair{Key: keyVersion, Val: numberValue(version)},
		api.Pair{Key: keyName, Val: stringValue(m.Name)},
		api.Pair{Key: keyPiece, Val: numberValue(m.PieceLen)})
	var layers []api.Pair
	for _, l := range m.Layers {
		layers = append(layers, api.Pair{Key: string(l.Root[:]), Val: stringValue(glued(l.Hashes))})
	}
	return dict(m.Top, api.Pair{Key: keyInfo, Val: info}, api.Pair{Key: keyLayers, Val: dict(layers)})
}

// folderValue is the value of a folder, the paths of whose files go on from the component of that place.
func folderValue(files []api.File, place int) api.Value {
	var pairs []api.Pair
	for len(files) > 0 {
		name := files[0].Path[place]
		n := slices.IndexFunc(files, func(f api.File) bool { return f.Path[place] != name })
		if n < 0 {
			n = len(files)
		}
		v := fileValue(files[0])
		if len(files[0].Path) > place+1 {
			v = folderValue(files[:n], place+1)
		}
		pairs = append(pairs, api.Pair{Key: name, Val: v})
		files = files[n:]
	}
	return dict(pairs)
}

// fileValue is what stands in a folder for a file.
func fileValue(f api.File) api.Value {
	entry := []api.Pair{{Key: keyLength, Val: numberValue(f.Len)}}
	if f.Len > 0 {
		entry = append(entry, api.Pair{Key: keyRoot, Val: stringValue(string(f.Root[:]))})
	}
	return dict(nil, api.Pair{Key: keyFile, Val: dict(f.More, entry...)})
}

// dict is the dictionary of these pairs and those, in the order of their keys.
func dict(some []api.Pair, others ...api.Pair) api.Value {
	all := slices.Concat(some, others)
	slices.SortFunc(all, func(a, b api.Pair) int { return strings.Compare(a.Key, b.Key) })
	return api.Value{Kind: api.KindDict, Dict: all}
}

func numberValue(n int) api.Value { return api.Value{Kind: api.KindInt, Int: n} }

func stringValue(s string) api.Value { return api.Value{Kind: api.KindStr, Str: s} }

// glued lays hashes one behind the other.
func glued(hashes []api.Hash) string {
	var s strings.Builder
	for _, h := range hashes {
		s.Write(h[:])
	}
	return s.String()
}
