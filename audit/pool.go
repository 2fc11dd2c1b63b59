package audit

import (
	"iter"
	"strconv"
	"strings"

	"torrent/api"
	"torrent/tree"
)

// none is the place of a file that is not there.
const none = -1

// kind is what a file is, whatever it is called.
type kind struct {
	bytes int
	root  api.Hash
}

// pool is files, with what they are to the files of a metainfo.
type pool struct {
	files   []api.Source
	named   []int   // for each file of the metainfo the place of its namesake, or none
	matches [][]int // for each file of the metainfo the places of its matches
}

// searched looks all files of a metainfo up in a pool.
func searched(sc api.Scale, m api.Meta, files []api.Source) (pool, api.Errno) {
	named, e := namesakes(m, files)
	if e != api.OK {
		return pool{}, e
	}
	return pool{files: files, named: named, matches: matches(sc, m, files)}, api.OK
}

// candidates yields the bytes in which the pieces of a file are sought: those of its matches, then those of its namesake.
func (p pool) candidates(file int) iter.Seq[[]byte] {
	return func(yield func([]byte) bool) {
		for _, at := range p.matches[file] {
			if !yield(p.files[at].Data) {
				return
			}
		}
		if at := p.named[file]; at != none {
			yield(p.files[at].Data)
		}
	}
}

// byPath answers where the file of each path is, if the files may be a pool.
func byPath(files []api.Source) (map[string]int, api.Errno) {
	if len(files) > api.MaxFiles {
		return nil, api.ErrPool
	}
	places := make(map[string]int, len(files))
	for at, f := range files {
		places[joined(f.Path)] = at
	}
	if len(places) < len(files) { // two of them have one path
		return nil, api.ErrPool
	}
	return places, api.OK
}

// namesakes answers for each file of a metainfo the place of its namesake, or none, if the files may be a pool.
func namesakes(m api.Meta, files []api.Source) ([]int, api.Errno) {
	places, e := byPath(files)
	if e != api.OK {
		return nil, e
	}
	named := make([]int, len(m.Files))
	for i, f := range m.Files {
		named[i] = none
		if at, there := places[joined(f.Path)]; there {
			named[i] = at
		}
	}
	return named, api.OK
}

// joined is a text that no other path has: the names can be any strings, so each stands behind its length.
func joined(path []string) string {
	var b strings.Builder
	for _, name := range path {
		b.WriteString(strconv.Itoa(len(name)))
		b.WriteByte(':')
		b.WriteString(name)
	}
	return b.String()
}

// matches answers for each file of a metainfo the places of its matches, rising.
func matches(sc api.Scale, m api.Meta, files []api.Source) [][]int {
	// Of a file that is as long as none of the metainfo's the root need not be reckoned.
	lengths := make(map[int]struct{}, len(m.Files))
	for _, f := range m.Files {
		lengths[f.Len] = struct{}{}
	}
	places := make(map[kind][]int)
	for at, f := range files {
		if _, asked := lengths[len(f.Data)]; !asked {
			continue
		}
		if k, e := kindOf(sc, f.Data); e == api.OK {
			places[k] = append(places[k], at)
		}
	}
	all := make([][]int, len(m.Files))
	for i, f := range m.Files {
		all[i] = places[kind{bytes: f.Len, root: f.Root}]
	}
	return all
}

// kindOf is what a file of these bytes is; an empty one has the root that a metainfo tells of it, zeros.
func kindOf(sc api.Scale, data []byte) (kind, api.Errno) {
	if len(data) == 0 {
		return kind{}, api.OK
	}
	root, e := tree.FileRoot(sc, data)
	return kind{bytes: len(data), root: root}, e
}
