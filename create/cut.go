package create

import (
	"bytes"
	"slices"

	"torrent/api"
)

// byPath orders files about a path. Any order would do that sets the same paths side by side: they need not be paths that may be.
func byPath(s api.Source, path []string) int { return slices.Compare(s.Path, path) }

// matched answers for each file of the metainfo the one that has its path and its length, or false, if one has none or several. Two files of one path get the same.
func matched(m api.Meta, files []api.Source) ([]api.Source, bool) {
	if len(files) != len(m.Files) {
		return nil, false
	}
	sorted := slices.Clone(files)
	slices.SortFunc(sorted, func(a, b api.Source) int { return byPath(a, b.Path) })
	all := make([]api.Source, 0, len(m.Files))
	for _, f := range m.Files {
		found := sought(sorted, f.Path, byPath)
		if len(found) != 1 || len(found[0].Data) != f.Len {
			return nil, false
		}
		all = append(all, found[0])
	}
	return all, true
}

// cut answers the bytes of all pieces.
func cut(p plan, sources []api.Source) [][]byte {
	return spread(p.runs, func(r run) [][]byte {
		data := sources[r.file].Data
		return turned(p.places(r), func(at api.Place) []byte {
			return bytes.Clone(data[at.From : at.From+at.Len])
		})
	})
}

// takes tells whether these can be the pieces, by their number and their lengths.
func (p plan) takes(pieces [][]byte) bool {
	return slices.EqualFunc(pieces, spread(p.runs, p.places), func(b []byte, at api.Place) bool {
		return len(b) == at.Len
	})
}

// glued answers the files that the pieces make.
func glued(m api.Meta, p plan, pieces [][]byte) []api.Source {
	return turned(p.runs, func(r run) api.Source {
		return api.Source{
			Path: slices.Clone(m.Files[r.file].Path),
			Data: slices.Concat(pieces[r.first:r.end()]...),
		}
	})
}
