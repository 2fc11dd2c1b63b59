package session

import (
	"slices"

	"torrent/api"
)

// effect is what a message of a peer does. An error closes the connection to that peer.
type effect func(s *Session, peer int, m api.Msg) error

// effects is what each kind of message does; one that is not there does nothing.
func effects() map[int]effect {
	return map[int]effect{
		api.MsgChoke:       (*Session).hearChoke,
		api.MsgInterested:  (*Session).hearInterest,
		api.MsgIdle:        (*Session).hearInterest,
		api.MsgHave:        (*Session).hearHave,
		api.MsgBitfield:    (*Session).hearBitfield,
		api.MsgRequest:     (*Session).hearRequest,
		api.MsgPiece:       (*Session).hearPiece,
		api.MsgCancel:      (*Session).hearCancel,
		api.MsgHashRequest: (*Session).hearHashRequest,
		api.MsgHashes:      (*Session).hearHashes,
		api.MsgHashReject:  (*Session).hearHashReject,
	}
}

// hear takes the events of a peer, up to the first that closes the connection to it.
func (s *Session) hear(peer int, events []api.Event) error {
	table := effects()
	for _, v := range events {
		if v.Hello {
			s.welcome(peer)
			continue
		}
		if does, ok := table[v.Msg.Kind]; ok {
			if reason := does(s, peer, v.Msg); reason != nil {
				return reason
			}
		}
	}
	return nil
}

// welcome takes a peer's handshake.
func (s *Session) welcome(peer int) {
	s.picker.Join(peer)
	s.upload.Join(peer)
	have := s.store.Have()
	if slices.ContainsFunc(have, func(b byte) bool { return b != 0 }) {
		s.send(peer, api.Msg{Kind: api.MsgBitfield, Data: have})
	}
}

func (s *Session) hearChoke(peer int, m api.Msg) error {
	s.picker.Choked(peer)
	return nil
}

func (s *Session) hearInterest(peer int, m api.Msg) error {
	s.upload.Interest(peer, m.Kind == api.MsgInterested)
	return nil
}

func (s *Session) hearHave(peer int, m api.Msg) error {
	s.picker.Has(peer, m.Index)
	return nil
}

func (s *Session) hearBitfield(peer int, m api.Msg) error {
	s.picker.Field(peer, m.Data)
	return nil
}

func (s *Session) hearRequest(peer int, m api.Msg) error {
	s.upload.Request(peer, m.Index, m.Begin, m.Length)
	return nil
}

func (s *Session) hearCancel(peer int, m api.Msg) error {
	s.upload.Cancel(peer, m.Index, m.Begin, m.Length)
	return nil
}

func (s *Session) hearHashRequest(peer int, m api.Msg) error {
	if answer, e := s.upload.Hashes(peer, queryOf(m)); e == api.OK {
		s.send(peer, answer)
	}
	return nil
}

func (s *Session) hearHashReject(peer int, m api.Msg) error {
	s.book.Reject(peer, queryOf(m))
	return nil
}

// hearHashes takes an answer to a query, if it was asked; one that is false was given by that peer alone.
func (s *Session) hearHashes(peer int, m api.Msg) error {
	q := queryOf(m)
	told, e := s.book.Accept(peer, q, m.Hashes)
	if e == api.ErrUnasked {
		return nil
	}
	if e != api.OK {
		return errLied
	}
	// The message is of an event that nobody else has.
	s.answers = append(s.answers, api.Answer{Query: q, Hashes: m.Hashes})
	for _, i := range told {
		s.learn(i)
	}
	return nil
}

// learn lets the others know of a hash that the book has learned. The piece may lie on the disk since an earlier start.
func (s *Session) learn(piece int) {
	h, _, _ := s.book.Known(piece)
	s.upload.Learn(piece, h)
	if had, _ := s.store.Learn(piece, h); had {
		s.keep(piece)
	} else {
		s.picker.Ready(piece)
	}
}

// queryOf is the query of a message.
func queryOf(m api.Msg) api.Query {
	return api.Query{Root: m.Root, Base: m.Base, Index: m.Index, Length: m.Length, Proofs: m.Proofs}
}

// asking is the message that asks a query.
func asking(q api.Query) api.Msg {
	return api.Msg{Kind: api.MsgHashRequest, Root: q.Root, Base: q.Base, Index: q.Index, Length: q.Length, Proofs: q.Proofs}
}
