package book

import (
	"torrent/api"
	"torrent/proof"
)

// chunk is a query for a row of a large file's pieces.
type chunk struct {
	query  api.Query
	first  int // the piece that the row begins with: no two chunks have the same
	nodes  int // how many pieces the file has
	askers int // at how many peers it is out
}

// count is how many pieces the chunk has: the row may reach behind the file's last one.
func (c *chunk) count() int { return min(c.query.Length, c.nodes-c.query.Index) }

// like tells whether what is learned of one chunk holds for the other.
func (c *chunk) like(d *chunk) bool { return c.query == d.query && c.nodes == d.nodes }

// openChunks lists the chunks of the large files whose pieces' hashes are not known. (Of the others none ever opens.)
func openChunks(m api.Meta, level int, pieces []api.Piece) ([]*chunk, api.Errno) {
	var open []*chunk
	first := 0
	for _, f := range m.Files {
		n := (f.Len + m.PieceLen - 1) / m.PieceLen
		if n > 0 && !pieces[first].Known {
			plan, e := proof.Plan(n, level, f.Root)
			if e != api.OK {
				return nil, e
			}
			for _, q := range plan {
				open = append(open, &chunk{query: q, first: first + q.Index, nodes: n})
			}
		}
		first += n
	}
	return open, api.OK
}
