package upload

import (
	"torrent/api"
	"torrent/proof"
	"torrent/tree"
)

// file is a file that has bytes.
type file struct {
	root         api.Hash
	first, count int // its pieces
	blocks       int
}

// filesOf lists the files of a metainfo that have bytes. It was looked over, so that their pieces lie one behind the other.
func filesOf(sc api.Scale, m api.Meta) []file {
	var files []file
	first := 0
	for _, f := range m.Files {
		if f.Len == 0 {
			continue
		}
		n := parts(f.Len, m.PieceLen)
		files = append(files, file{root: f.Root, first: first, count: n, blocks: parts(f.Len, sc.Block)})
		first += n
	}
	return files
}

// parts tells how many parts of a size n bytes have, the last one perhaps shorter.
func parts(n, size int) int { return (n + size - 1) / size }

// isLarge tells whether the file is longer than a piece.
func (f file) isLarge() bool { return f.count > 1 }

// Learn tells a piece's hash that became known.
func (u *Upload) Learn(piece int, h api.Hash) api.Errno {
	if u.missing() {
		return api.ErrNil
	}
	if !u.isPiece(piece) {
		return api.ErrPiece
	}
	if p := &u.pieces[piece]; !p.Known {
		p.Known, p.Hash = true, h
	}
	return api.OK
}

// Hashes answers a query of a peer.
func (u *Upload) Hashes(peer int, q api.Query) (api.Msg, api.Errno) {
	if _, e := u.at(peer); e != api.OK {
		return api.Msg{}, e
	}
	m := api.Msg{Kind: api.MsgHashReject, Root: q.Root, Base: q.Base, Index: q.Index, Length: q.Length, Proofs: q.Proofs}
	for _, f := range u.files {
		if f.root != q.Root {
			continue
		}
		if hashes := u.answer(f, q); len(hashes) > 0 {
			m.Kind, m.Hashes = api.MsgHashes, hashes
			break
		}
	}
	return m, api.OK
}

// answer is what a file answers to a query; nothing, if it can't. That a query may be asked is looked at first: hashes are costly.
func (u *Upload) answer(f file, q api.Query) []api.Hash {
	if f.isLarge() && proof.Check(f.count, u.level, q) == api.OK {
		if row := u.row(f); len(row) > 0 {
			return u.proved(u.level, row, q)
		}
	}
	if proof.Check(f.blocks, 0, q) == api.OK {
		return u.proved(0, u.leaves(f), q)
	}
	return nil
}

// proved is the answer to a query out of the nodes at a level; nothing, if there are none.
func (u *Upload) proved(level int, nodes []api.Hash, q api.Query) []api.Hash {
	hashes, _ := proof.Prove(u.scale, level, nodes, q)
	return hashes
}

// row is the hashes of a file's pieces; nothing, if one of them is not known.
func (u *Upload) row(f file) []api.Hash {
	row := make([]api.Hash, 0, f.count)
	for _, p := range u.pieces[f.first : f.first+f.count] {
		if !p.Known {
			return nil
		}
		row = append(row, p.Hash)
	}
	return row
}

// leaves is the hashes of a file's blocks; nothing, if they can't be had.
func (u *Upload) leaves(f file) []api.Hash {
	for i := range f.count {
		if !u.there(f.first + i) {
			return nil
		}
	}
	all := make([]api.Hash, 0, f.blocks)
	for i := range f.count {
		piece := f.first + i
		data, e := u.store.Read(piece, 0, u.pieces[piece].Len)
		if e != api.OK {
			return nil
		}
		// No block lies in two pieces, so that a piece's leaves are the file's.
		leaves, e := tree.Leaves(u.scale, data)
		if e != api.OK {
			return nil
		}
		all = append(all, leaves...)
	}
	return all
}
