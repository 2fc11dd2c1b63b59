package engine

import (
	"bytes"
	"slices"

	"torrent/api"
	"torrent/create"
	"torrent/meta"
	"torrent/proof"
	"torrent/span"
	"torrent/tree"
)

// Evidence answers two unlike texts of one digest, if a run for the infohash of these files ends with a complete file that is another one.
func Evidence(sc api.Scale, name string, pieceLen int, files []api.Source, text []byte, sectors int, moves []api.Move) ([]byte, []byte, api.Errno) {
	made, e := create.Create(sc, name, pieceLen, files)
	if e != api.OK {
		return nil, nil, e
	}
	info, e := meta.Infohash(sc, made)
	if e != api.OK {
		return nil, nil, e
	}
	report, e := Run(sc, text, info, sectors, moves)
	if e != api.OK {
		return nil, nil, e
	}
	if report.Start != api.OK {
		return nil, nil, api.ErrApart
	}
	a, b := infoOf(text), infoOf(made)
	if !bytes.Equal(a, b) {
		return a, b, api.OK
	}
	t, e := truthOf(sc, made, files)
	if e != api.OK {
		return nil, nil, e
	}
	return t.against(report)
}

// infoOf are the bytes of the info dictionary of a metainfo that can be read.
func infoOf(text []byte) []byte {
	from, to, _ := span.Info(text)
	return bytes.Clone(text[from:to])
}

// truth is a torrent with the files that it was made of.
type truth struct {
	scale api.Scale
	level int          // the piece level
	files []api.Source // in the order of the metainfo
	rows  []api.Layer  // the piece layers of the large ones
}

// truthOf reads what the files were made into.
func truthOf(sc api.Scale, made []byte, files []api.Source) (*truth, api.Errno) {
	m, e := meta.Parse(sc, made)
	if e != api.OK {
		return nil, e
	}
	pieces, e := create.Slice(m, files)
	if e != api.OK {
		return nil, e
	}
	sorted, e := create.Glue(m, pieces)
	if e != api.OK {
		return nil, e
	}
	level, e := tree.Height(m.PieceLen / sc.Block)
	return &truth{scale: sc, level: level, files: sorted, rows: m.Layers}, e
}

// against answers what parts a run from the truth.
func (t *truth) against(report api.Report) ([]byte, []byte, api.Errno) {
	other := t.firstOther(report)
	if other < 0 {
		return nil, nil, api.ErrSame
	}
	for _, a := range report.Answers {
		row := t.rowOf(a.Query.Root)
		right, e := proof.Prove(t.scale, t.level, row, a.Query)
		if e != api.OK || !slices.Equal(right, a.Hashes) {
			return proof.Betray(t.scale, t.level, row, a.Query, a.Hashes)
		}
	}
	return proof.Collide(t.scale, t.files[other].Data, report.Files[other])
}

// firstOther is the first file that is done and is not the one that was handed in; -1, if there is none.
func (t *truth) firstOther(report api.Report) int {
	for i, f := range t.files {
		if report.Done[i] && !bytes.Equal(report.Files[i], f.Data) {
			return i
		}
	}
	return -1
}

// rowOf is the piece layer of the large files with a root: they have one and the same, else the torrent could not have been made.
func (t *truth) rowOf(root api.Hash) []api.Hash {
	i := slices.IndexFunc(t.rows, func(l api.Layer) bool { return l.Root == root })
	if i < 0 {
		return nil
	}
	return t.rows[i].Hashes
}
