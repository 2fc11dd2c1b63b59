package session

import "torrent/api"

// Tick is a tick of time.
func (s *Session) Tick() []api.Act {
	if s.missing() {
		return nil
	}
	s.now++
	s.strike()
	s.thin()
	for _, out := range s.upload.Tick(s.now) {
		s.send(out.Peer, out.Msg)
	}
	if s.now%api.Beat == 0 {
		s.sendAll(api.Msg{Kind: api.MsgAlive})
	}
	s.round()
	return s.told()
}

// strike counts what is late now. Only who is connected is asked for anything.
func (s *Session) strike() {
	for _, d := range s.picker.Expire(s.now) {
		s.links[d.Peer].strikes++
		s.send(d.Peer, s.naming(api.MsgCancel, api.Block{Piece: d.Piece, Block: d.Block}))
	}
	for _, l := range s.book.Expire(s.now) {
		s.links[l.Peer].strikes++
	}
}

// thin closes the connections to those who were late too often, or silent too long.
func (s *Session) thin() {
	for _, peer := range s.Peers() {
		switch l := s.links[peer]; {
		case l.strikes >= api.Strikes:
			s.part(peer, errSlow)
		case s.now-l.heard >= api.Quiet:
			s.part(peer, errQuiet)
		}
	}
}

// round asks each peer for what there is to be asked for.
func (s *Session) round() {
	for _, peer := range s.shaken() {
		s.ask(peer)
	}
}

// ask tells a peer whether we are interested, and asks it for hashes and blocks if we are.
func (s *Session) ask(peer int) {
	state := s.links[peer].State()
	want, _ := s.picker.Wants(peer)
	if want != state.AmInterested {
		s.send(peer, interest(want))
	}
	if !want {
		return
	}
	if q, ok, _ := s.book.Next(peer, s.now); ok {
		s.send(peer, asking(q))
	}
	if state.Choking {
		return
	}
	for b, ok, _ := s.picker.Pick(peer, s.now); ok; b, ok, _ = s.picker.Pick(peer, s.now) {
		s.send(peer, s.naming(api.MsgRequest, b))
	}
}

// interest is the message that tells whether we are interested.
func interest(on bool) api.Msg {
	if on {
		return api.Msg{Kind: api.MsgInterested}
	}
	return api.Msg{Kind: api.MsgIdle}
}
