package peer

import (
	"torrent/api"
	"torrent/bitset"
)

// versionTwo is the bit of a handshake's last flag that says that we speak of torrents of version 2.
const versionTwo = 16

// side is one end of a connection, by what it has said so far.
type side struct {
	chokes     bool // it does not answer the other's requests
	interested bool
	begun      bool // more than quiet messages was said
}

// says is the effect of a message on the side that says it.
func (s *side) says(kind int) {
	switch kind {
	case api.MsgAlive, api.MsgOther:
		return
	case api.MsgChoke, api.MsgUnchoke:
		s.chokes = kind == api.MsgChoke
	case api.MsgInterested, api.MsgIdle:
		s.interested = kind == api.MsgInterested
	}
	s.begun = true
}

// torrent is what the messages are held against.
type torrent struct {
	info  [20]byte // as much of the infohash as a handshake has
	block int      // bytes of a block
	lens  []int    // bytes of each piece
}

// isPiece tells whether there is a piece of that number.
func (t *torrent) isPiece(i int) bool { return i >= 0 && i < len(t.lens) }

// isField tells whether b is a bitfield of the torrent's pieces.
func (t *torrent) isField(b []byte) bool { return bitset.Check(len(t.lens), b) == api.OK }

// isRange tells whether the bytes that a message names, or brings, lie in the torrent.
func (t *torrent) isRange(m api.Msg) bool {
	n := length(m)
	// Begin + n would be beyond an int where one has 32 bits.
	return t.isPiece(m.Index) && n <= t.block && m.Begin <= t.lens[m.Index]-n
}

// isCut tells whether a range begins where a block does, and ends where a whole block or the piece ends.
func (t *torrent) isCut(m api.Msg) bool {
	n := length(m)
	return t.isPiece(m.Index) && m.Begin%t.block == 0 && (n == t.block || m.Begin == t.lens[m.Index]-n)
}

// length is how many bytes of a piece a message names, or brings.
func length(m api.Msg) int {
	if m.Kind == api.MsgPiece {
		return len(m.Data)
	}
	return m.Length
}

// legal tells why a message that came may not be; OK: it may.
func (p *Peer) legal(m api.Msg) api.Errno {
	switch m.Kind {
	case api.MsgBitfield:
		if p.it.begun {
			return api.ErrPeerOrder
		}
		if !p.isField(m.Data) {
			return api.ErrPeerField
		}
	case api.MsgPiece:
		if !p.isCut(m) {
			return api.ErrPeerIndex
		}
		fallthrough
	case api.MsgRequest, api.MsgCancel:
		if !p.isRange(m) {
			return api.ErrPeerIndex
		}
	case api.MsgHave:
		if !p.isPiece(m.Index) {
			return api.ErrPeerIndex
		}
	}
	return api.OK
}

// maySay tells whether a message of ours may be said, as things stand.
func (p *Peer) maySay(m api.Msg) bool {
	switch m.Kind {
	case api.MsgBitfield:
		return !p.we.begun && p.isField(m.Data)
	case api.MsgHave:
		return p.isPiece(m.Index)
	case api.MsgPiece:
		return !p.we.chokes && p.isRange(m)
	case api.MsgRequest:
		if p.it.chokes {
			return false
		}
		fallthrough
	case api.MsgCancel:
		return p.isRange(m)
	}
	return true
}
