package session

import (
	"errors"
	"strconv"

	"torrent/api"
	"torrent/peer"
)

// The reasons of our own for which a connection is closed, and what all broken streams have in common.
var (
	errLied   = errors.New("what the peer alone gave was wrong")
	errSlow   = errors.New("the peer was too slow too often")
	errQuiet  = errors.New("nothing came from the peer for too long")
	errStream = errors.New("the peer's stream is broken")
)

// broken is what a stream was broken by.
type broken struct{ number api.Errno }

func (b *broken) Error() string { return errStream.Error() + ": " + strconv.Itoa(int(b.number)) }

func (b *broken) Unwrap() error { return errStream }

// breach turns what a connection answered to its bytes into an error, if it is one.
func breach(e api.Errno) error {
	if e == api.OK {
		return nil
	}
	return &broken{number: e}
}

// link is a connection to a peer.
type link struct {
	*peer.Peer
	strikes int
	heard   int              // the time at which something came last
	kept    map[int][][]byte // by pieces that are fetched alone: their blocks, nil where none came
}

// newLink is a connection over which nothing went. The pieces of a torrent that is open are never refused.
func (s *Session) newLink() *link {
	p, _ := peer.New(s.scale, s.info, s.lens())
	return &link{Peer: p, heard: s.now, kept: map[int][][]byte{}}
}

// part closes a connection for a reason.
func (s *Session) part(peer int, reason error) {
	act := closing(peer, reason)
	s.tell(act)
	if act.Kind == api.ActBan {
		s.banned[peer] = struct{}{}
	}
	s.forget(peer)
}

// closing is the act by which a connection is closed.
func closing(peer int, reason error) api.Act {
	act := api.Act{Kind: api.ActDrop, Peer: peer}
	var b *broken
	switch {
	case errors.Is(reason, errLied):
		act.Kind, act.Why = api.ActBan, api.ErrLied
	case errors.Is(reason, errSlow):
		act.Why = api.ErrSlow
	case errors.Is(reason, errQuiet):
		act.Why = api.ErrQuiet
	case errors.As(reason, &b):
		act.Why = b.number
	}
	return act
}

// forget lets go all that there is of a connection. The others know of it only if its handshake has come, and refuse it else.
func (s *Session) forget(peer int) {
	delete(s.links, peer)
	s.picker.Leave(peer)
	s.upload.Leave(peer)
	s.book.Drop(peer)
}

// send lets a message go to a peer, if it may be said as things stand.
func (s *Session) send(peer int, m api.Msg) {
	l := s.links[peer]
	if l == nil {
		return
	}
	if text, e := l.Say(m); e == api.OK {
		s.tell(api.Act{Kind: api.ActSend, Peer: peer, Data: text})
	}
}

// shaken lists the peers whose handshake has come, rising.
func (s *Session) shaken() []int {
	var l []int
	for _, peer := range s.Peers() {
		if s.links[peer].State().Shaken {
			l = append(l, peer)
		}
	}
	return l
}

// sendAll lets a message go to each of them.
func (s *Session) sendAll(m api.Msg) {
	for _, peer := range s.shaken() {
		s.send(peer, m)
	}
}
