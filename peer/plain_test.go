package peer_test

import (
	"encoding/binary"
	"slices"

	"torrent/api"
)

const sign = "\x13BitTorrent protocol"

// plain is a connection by the chapter's words: it keeps all that came, and reads it from its begin on each time it is asked.
type plain struct {
	block int
	info  api.Hash
	lens  []int
	came  []byte
	said  []api.Msg
	told  int // how many events were answered
}

// story is what a stream says when it is read from its begin on.
type story struct {
	shaken bool
	events []api.Event
	ms     []api.Msg // the messages, those without an event too
	why    api.Errno
}

func (p *plain) story() story {
	var s story
	b := p.came
	for i := range min(len(b), 20) {
		if b[i] != sign[i] {
			s.why = api.ErrHello
			return s
		}
	}
	if len(b) < 68 {
		return s
	}
	if string(b[28:48]) != string(p.info[:20]) {
		s.why = api.ErrPeerInfo
		return s
	}
	s.shaken = true
	s.events = append(s.events, api.Event{Hello: true, Peer: [20]byte(b[48:68])})
	for b = b[68:]; len(b) >= 4; {
		n := int64(binary.BigEndian.Uint32(b))
		if n > 32768 {
			s.why = api.ErrFrame
			return s
		}
		if int64(len(b)) < 4+n {
			return s
		}
		m, e := plainDecode(b[4 : 4+n])
		if e == api.OK {
			e = p.legal(s.ms, m)
		}
		if e != api.OK {
			s.why = e
			return s
		}
		s.ms = append(s.ms, m)
		if m.Kind != 1000 {
			s.events = append(s.events, api.Event{Msg: m})
		}
		b = b[4+n:]
	}
	return s
}

// plainDecode reads a body by the table of chapter 11.
func plainDecode(b []byte) (api.Msg, api.Errno) {
	if len(b) == 0 {
		return api.Msg{Kind: -1}, api.OK
	}
	number := func(at int) int { return int(binary.BigEndian.Uint32(b[at:])) }
	kind, n := int(b[0]), len(b)
	m := api.Msg{Kind: kind}
	var fits bool
	switch kind {
	case 0, 1, 2, 3:
		fits = n == 1
	case 4:
		if fits = n == 5; fits {
			m.Index = number(1)
		}
	case 5:
		if fits = n <= 8193; fits {
			m.Data = b[1:]
		}
	case 6, 8:
		if fits = n == 13; fits {
			m.Index, m.Begin, m.Length = number(1), number(5), number(9)
			if m.Length < 1 || m.Length > 16384 {
				return api.Msg{}, api.ErrMsgField
			}
		}
	case 7:
		if fits = n >= 10 && n <= 16393; fits {
			m.Index, m.Begin, m.Data = number(1), number(5), b[9:]
		}
	case 21, 22, 23:
		if fits = n == 49 || kind == 22 && n > 49 && n <= 17969 && (n-49)%32 == 0; fits {
			m.Root = api.Hash(b[1:33])
			m.Base, m.Index, m.Length, m.Proofs = number(33), number(37), number(41), number(45)
			for h := range slices.Chunk(b[49:], 32) {
				m.Hashes = append(m.Hashes, api.Hash(h))
			}
		}
	default:
		if kind < 64 {
			return api.Msg{}, api.ErrMsgKind
		}
		return api.Msg{Kind: 1000, Index: kind, Data: b[1:]}, api.OK
	}
	if !fits {
		return api.Msg{}, api.ErrMsgSize
	}
	return m, api.OK
}

// loud tells whether one of these messages is not quiet.
func loud(ms []api.Msg) bool {
	return slices.ContainsFunc(ms, func(m api.Msg) bool { return m.Kind != -1 && m.Kind != 1000 })
}

// field tells whether b is a bitfield of the pieces.
func (p *plain) field(b []byte) bool {
	n := len(p.lens)
	if len(b) != (n+7)/8 {
		return false
	}
	for i := n; i < 8*len(b); i++ {
		if b[i/8]>>(7-i%8)&1 != 0 {
			return false
		}
	}
	return true
}

func (p *plain) piece(i int) bool { return 0 <= i && i < len(p.lens) }

func (p *plain) lies(i, begin, n int) bool {
	return p.piece(i) && n <= p.block && begin+n <= p.lens[i]
}

// isBlock looks for the range among all blocks of the piece.
func (p *plain) isBlock(i, begin, n int) bool {
	if !p.piece(i) {
		return false
	}
	for at := 0; at < p.lens[i]; at += p.block {
		if at == begin && n == min(p.block, p.lens[i]-at) {
			return true
		}
	}
	return false
}

// legal tells why a message that comes behind those others is not legal.
func (p *plain) legal(ahead []api.Msg, m api.Msg) api.Errno {
	switch {
	case m.Kind == 5 && loud(ahead):
		return api.ErrPeerOrder
	case m.Kind == 5 && !p.field(m.Data):
		return api.ErrPeerField
	case m.Kind == 4 && !p.piece(m.Index),
		(m.Kind == 6 || m.Kind == 8) && !p.lies(m.Index, m.Begin, m.Length),
		m.Kind == 7 && !p.isBlock(m.Index, m.Begin, len(m.Data)):
		return api.ErrPeerIndex
	}
	return api.OK
}

func (p *plain) feed(b []byte) ([]api.Event, api.Errno) {
	if p.story().why != api.OK {
		return nil, api.ErrPeerGone
	}
	p.came = append(p.came, b...)
	s := p.story()
	l := s.events[p.told:]
	p.told = len(s.events)
	return l, s.why
}

// chokes and keen tell what somebody who said these messages has said last.
func chokes(ms []api.Msg) bool {
	on := true
	for _, m := range ms {
		on = (on || m.Kind == 0) && m.Kind != 1
	}
	return on
}

func keen(ms []api.Msg) bool {
	on := false
	for _, m := range ms {
		on = (on || m.Kind == 2) && m.Kind != 3
	}
	return on
}

// say answers the error alone; sound says what message.Valid answers for m.
func (p *plain) say(m api.Msg, sound api.Errno) api.Errno {
	s := p.story()
	if s.why != api.OK {
		return api.ErrPeerGone
	}
	if sound != api.OK {
		return sound
	}
	no := false
	switch m.Kind {
	case 5:
		no = loud(p.said) || !p.field(m.Data)
	case 4:
		no = !p.piece(m.Index)
	case 6:
		no = chokes(s.ms) || !p.lies(m.Index, m.Begin, m.Length)
	case 8:
		no = !p.lies(m.Index, m.Begin, m.Length)
	case 7:
		no = chokes(p.said) || !p.lies(m.Index, m.Begin, len(m.Data))
	}
	if no {
		return api.ErrPeerSay
	}
	p.said = append(p.said, m)
	return api.OK
}

func (p *plain) state() api.PeerState {
	s := p.story()
	has := make([]byte, (len(p.lens)+7)/8)
	for _, m := range s.ms {
		switch m.Kind {
		case 5:
			has = slices.Clone(m.Data)
		case 4:
			has[m.Index/8] |= 1 << (7 - m.Index%8)
		}
	}
	return api.PeerState{Shaken: s.shaken, Gone: s.why != api.OK, Why: s.why, AmChoking: chokes(p.said), AmInterested: keen(p.said), Choking: chokes(s.ms), Interested: keen(s.ms), Has: has}
}
