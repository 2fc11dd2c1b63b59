package session

import "torrent/api"

// hearPiece takes a block that came.
func (s *Session) hearPiece(peer int, m api.Msg) error {
	b := api.Block{Piece: m.Index, Block: m.Begin / s.scale.Block}
	alone, _ := s.picker.Alone(b.Piece)
	others, whole, e := s.picker.Got(peer, b.Piece, b.Block)
	if e != api.OK {
		return nil
	}
	s.upload.Credit(peer, len(m.Data))
	if alone {
		// The message is of an event that nobody else has.
		s.lay(peer, b, m.Data)
	} else {
		s.store.Put(m.Index, m.Begin, m.Data)
		for _, other := range others {
			s.send(other, s.naming(api.MsgCancel, b))
		}
	}
	if !whole {
		return nil
	}
	if alone {
		s.putKept(peer, b.Piece)
	}
	return s.check(b.Piece)
}

// lay keeps a block of a piece that is fetched alone.
func (s *Session) lay(peer int, b api.Block, data []byte) {
	kept := s.links[peer].kept
	if kept[b.Piece] == nil {
		kept[b.Piece] = make([][]byte, parts(s.pieces[b.Piece].bytes, s.scale.Block))
	}
	kept[b.Piece][b.Block] = data
}

// putKept puts the blocks that a peer gave of a piece into the store.
func (s *Session) putKept(peer, piece int) {
	kept := s.links[peer].kept
	for i, data := range kept[piece] {
		s.store.Put(piece, i*s.scale.Block, data)
	}
	delete(kept, piece)
}

// check holds a whole piece against its hash. If one peer alone gave it, that is the one whose block made it whole, and so the one that is heard just now.
func (s *Session) check(piece int) error {
	if s.store.Finish(piece) == api.OK {
		s.keep(piece)
		return nil
	}
	givers, _ := s.picker.Checked(piece, false)
	s.tell(s.about(api.ActFail, piece))
	if len(givers) == 1 {
		return errLied
	}
	return nil
}

// keep takes a piece as had, and tells everybody.
func (s *Session) keep(piece int) {
	s.recall(piece)
	s.picker.Checked(piece, true)
	for _, peer := range s.Peers() {
		delete(s.links[peer].kept, piece)
	}
	s.gain(piece)
	s.tell(s.about(api.ActPiece, piece))
	s.sendAll(api.Msg{Kind: api.MsgHave, Index: piece})
	if i := s.pieces[piece].file; s.isComplete(i) {
		s.tell(api.Act{Kind: api.ActFile, File: i})
	}
}

// recall tells all peers that are asked for blocks of a piece that they are not wanted any more.
func (s *Session) recall(piece int) {
	for _, peer := range s.Peers() {
		asked, _ := s.picker.Asked(peer)
		for _, b := range asked {
			if b.Piece == piece {
				s.send(peer, s.naming(api.MsgCancel, b))
			}
		}
	}
}
