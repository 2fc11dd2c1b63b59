package audit_test

import (
	"bytes"
	"slices"

	"torrent/api"
	"torrent/create"
	"torrent/meta"
	"torrent/store"
)

// The calls once more, each as the chapter words it, without a thought of how long it takes.

func mayBe(pool []api.Source) bool {
	for i := range pool {
		for j := range i {
			if slices.Equal(pool[i].Path, pool[j].Path) {
				return false
			}
		}
	}
	return len(pool) <= api.MaxFiles
}

func plainNamesake(f api.File, pool []api.Source) (api.Source, bool) {
	for _, p := range pool {
		if slices.Equal(p.Path, f.Path) {
			return p, true
		}
	}
	return api.Source{}, false
}

func plainMatches(sc api.Scale, f api.File, pool []api.Source) []int {
	var l []int
	for i, p := range pool {
		if len(p.Data) == f.Len && (f.Len == 0 || top(sc, p.Data, 0) == f.Root) {
			l = append(l, i)
		}
	}
	return l
}

func plainPiece(m api.Meta, i int, p api.Source) ([]byte, bool) {
	at, _ := create.Where(m, i)
	if len(p.Data) < at.From+at.Len {
		return nil, false
	}
	return p.Data[at.From:][:at.Len], true
}

// plainRight reckons the leaves by the words of P9.7.
func plainRight(sc api.Scale, m api.Meta, i int, b []byte) bool {
	at, _ := create.Where(m, i)
	leaves := 0
	if m.Files[at.File].Len > m.PieceLen {
		leaves = m.PieceLen / sc.Block
	}
	h, _, _ := create.Want(sc, m, i)
	return top(sc, b, leaves) == h
}

func plainCheck(sc api.Scale, m api.Meta, files []api.Source) ([]api.Finding, api.Errno) {
	if e := meta.Check(sc, m); e != api.OK {
		return nil, e
	}
	if !mayBe(files) {
		return nil, api.ErrPool
	}
	var l []api.Finding
	n, _ := create.Pieces(m)
	for i := range n {
		at, _ := create.Where(m, i)
		p, there := plainNamesake(m.Files[at.File], files)
		b, here := plainPiece(m, i, p)
		_, told, _ := create.Want(sc, m, i)
		state := 2
		switch {
		case !there || !here:
			state = 3
		case !told:
			state = 4
		case plainRight(sc, m, i, b):
			state = 1
		}
		l = append(l, api.Finding{File: at.File, Piece: i, State: state})
	}
	return l, api.OK
}

func plainExtra(m api.Meta, files []api.Source) ([]int, api.Errno) {
	if !mayBe(files) {
		return nil, api.ErrPool
	}
	var l []int
	for i, p := range files {
		if !slices.ContainsFunc(m.Files, func(f api.File) bool { return slices.Equal(f.Path, p.Path) }) {
			l = append(l, i)
		}
	}
	return l, api.OK
}

func plainMatch(sc api.Scale, m api.Meta, pool []api.Source) ([]int, api.Errno) {
	if e := meta.Check(sc, m); e != api.OK {
		return nil, e
	}
	if !mayBe(pool) {
		return nil, api.ErrPool
	}
	var l []int
	for _, f := range m.Files {
		l = append(l, append(plainMatches(sc, f, pool), -1)[0])
	}
	return l, api.OK
}

// seen is what an import met, so that it can be told whether there was enough of each.
type seen struct{ byMatch, byName, learnt, refused, unfinished int }

func plainImport(sc api.Scale, m api.Meta, s *store.Store, pool []api.Source, w *seen) (int, api.Errno) {
	if e := meta.Check(sc, m); e != api.OK {
		return 0, e
	}
	if s == nil {
		return 0, api.ErrNil
	}
	if !mayBe(pool) {
		return 0, api.ErrPool
	}
	came := 0
	n, _ := create.Pieces(m)
	for i := range n {
		h, told, _ := create.Want(sc, m, i)
		if has(s, i) || !told {
			continue
		}
		if there, e := s.Learn(i, h); there {
			w.learnt++
			continue
		} else if e != api.OK {
			w.refused++
			continue
		}
		at, _ := create.Where(m, i)
		f := m.Files[at.File]
		var candidates []api.Source
		for _, k := range plainMatches(sc, f, pool) {
			candidates = append(candidates, pool[k])
		}
		matches := len(candidates)
		if p, there := plainNamesake(f, pool); there {
			candidates = append(candidates, p)
		}
		k := slices.IndexFunc(candidates, func(p api.Source) bool {
			b, here := plainPiece(m, i, p)
			return here && plainRight(sc, m, i, b)
		})
		if k < 0 {
			continue
		}
		b, _ := plainPiece(m, i, candidates[k])
		for from := 0; from < len(b); from += sc.Block {
			s.Put(i, from, b[from:min(from+sc.Block, len(b))])
		}
		switch e := s.Finish(i); {
		case e != api.OK:
			w.unfinished++
		case k < matches:
			w.byMatch++
			came++
		default:
			w.byName++
			came++
		}
	}
	return came, api.OK
}

func plainExport(m api.Meta, s *store.Store) ([]api.Source, api.Errno) {
	n, e := create.Pieces(m)
	if e != api.OK {
		return nil, e
	}
	if s == nil {
		return nil, api.ErrNil
	}
	var l []api.Source
	for k, f := range m.Files {
		var data []byte
		whole := true
		for i := range n {
			if at, _ := create.Where(m, i); at.File == k {
				b, e := s.Read(i, 0, at.Len)
				whole = whole && e == api.OK
				data = append(data, b...)
			}
		}
		if whole {
			l = append(l, api.Source{Path: f.Path, Data: data})
		}
	}
	return l, api.OK
}

// among tells whether a file of this path and these bytes is among others.
func among(l []api.Source, x api.Source) bool {
	return slices.ContainsFunc(l, func(y api.Source) bool {
		return slices.Equal(x.Path, y.Path) && bytes.Equal(x.Data, y.Data)
	})
}
