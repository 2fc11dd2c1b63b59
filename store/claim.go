package store

import (
	"torrent/api"
	"torrent/disk"
	"torrent/journal"
	"torrent/tree"
)

// claimKind is the kind of the records that say that a piece was had.
const claimKind = 1

// openClaims opens the journal of n pieces, and wipes what a crash has left over in it.
func openClaims(d *disk.Disk, n int) (*journal.Journal, api.Errno) {
	j, e := journal.Open(d, ringAt, ringCount(n))
	if e != api.OK {
		return nil, e
	}
	if !j.Clean() {
		e = j.Scrub()
	}
	return j, e
}

// hear notes which pieces the journal's records claim. Records that are no claim are passed over.
func (s *Store) hear(records []api.Record) {
	for _, r := range records {
		if r.Kind != claimKind || len(r.Data) != len(fourBytes(0)) {
			continue
		}
		if p, e := s.at(numberIn(r.Data)); e == api.OK {
			p.claimed = true
		}
	}
}

// claim appends the claim for a piece to the journal, unless it was there when the store was opened: a piece that is claimed since then is had, and no claim is asked for again.
func (s *Store) claim(piece int) api.Errno {
	if s.pieces[piece].claimed {
		return api.OK
	}
	if _, e := s.claims.Append(claimKind, fourBytes(piece)); e != api.OK {
		return api.ErrStoreFull
	}
	return api.OK
}

// walk goes over the pieces that are not had and whose hash is known, in their order; how many of them are had behind look, and a fault that it told.
func (s *Store) walk(look func(s *Store, piece int) api.Errno) (int, api.Errno) {
	found, fault := 0, api.OK
	for i := range s.pieces {
		p := &s.pieces[i]
		if !p.Known || p.had {
			continue
		}
		if e := look(s, i); e != api.OK {
			fault = e
		}
		if p.had {
			found++
		}
	}
	return found, fault
}

// judge believes the claim for a piece whose hash is known, if there is one and the bytes bear it out.
func (s *Store) judge(piece int) api.Errno {
	if !s.pieces[piece].claimed {
		return api.OK
	}
	return s.find(piece)
}

// find looks whether a piece is there, be it claimed or not. Bytes that are not right are no fault here: they may be all that has come so far.
func (s *Store) find(piece int) api.Errno {
	switch e := s.confirm(piece); e {
	case api.OK:
		s.mark(&s.pieces[piece], true)
		return api.OK
	case api.ErrStoreBad:
		return api.OK
	default:
		return e
	}
}

// confirm holds the bytes of a piece against its hash: if they are right, it is claimed and had. Its marks are left to who asks.
func (s *Store) confirm(piece int) api.Errno {
	p := &s.pieces[piece]
	if !s.right(p) {
		return api.ErrStoreBad
	}
	if e := s.claim(piece); e != api.OK {
		return e
	}
	p.had = true
	return api.OK
}

// right tells whether the bytes of a piece, as they are read now, have its hash.
func (s *Store) right(p *state) bool {
	data, e := s.read(p, 0, p.Len)
	if e != api.OK {
		return false
	}
	root, e := tree.PieceRoot(s.scale, data, p.Leaves)
	return e == api.OK && root == p.Hash
}
