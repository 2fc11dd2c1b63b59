package names

import (
	"slices"

	"torrent/api"
)

// Less tells whether a path stands ahead of another one.
func Less(a, b []string) bool { return slices.Compare(a, b) < 0 }

// Order answers the places of the paths in their order.
func Order(paths [][]string) ([]int, api.Errno) {
	if len(paths) > api.MaxFiles {
		return nil, api.ErrPathMany
	}
	for _, p := range paths {
		if e := Path(p); e != api.OK {
			return nil, e
		}
	}
	if _, _, e := Clash(paths); e != api.OK {
		return nil, e
	}
	order := make([]int, len(paths))
	for i := range order {
		order[i] = i
	}
	slices.SortFunc(order, func(i, j int) int { return slices.Compare(paths[i], paths[j]) })
	return order, api.OK
}

// Clash answers the first two paths that can't both be there.
func Clash(paths [][]string) (int, int, api.Errno) {
	laid := shelf{}
	for j, p := range paths {
		if laid.lay(p) {
			continue
		}
		i := slices.IndexFunc(paths[:j], func(q []string) bool { return against(q, p) != api.OK })
		return i, j, against(paths[i], p)
	}
	return 0, 0, api.OK
}

// against is the error of two paths that can't both be there.
func against(a, b []string) api.Errno {
	n := min(len(a), len(b))
	if !slices.Equal(a[:n], b[:n]) {
		return api.OK
	}
	if len(a) != len(b) {
		return api.ErrPathFolder
	}
	return api.ErrPathTwice
}

// shelf has the paths that were laid on it as one tree, so that a further one is held against all of them by one walk.
// Each folder has a number from 1 on; a path itself has the number file.
type shelf map[entry]int

const file = 0

// entry is a name in the folder of that number; the entry without any stands for the folder of all.
type entry struct {
	folder int
	name   string
}

// lay adds a path, unless it clashes with one that was laid.
func (s shelf) lay(p []string) bool {
	at := entry{}
	for _, name := range p {
		n, there := s[at]
		if !there {
			n = len(s) + 1
			s[at] = n
		}
		if n == file {
			return false
		}
		at = entry{n, name}
	}
	if _, there := s[at]; there {
		return false
	}
	s[at] = file
	return true
}
