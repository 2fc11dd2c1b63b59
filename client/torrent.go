package client

import (
	"torrent/api"
	"torrent/exchange"
	"torrent/extend"
	"torrent/frame"
)

// torrent is one of a client's, in one of its phases.
type torrent struct {
	*common
	phase phase
}

// join takes a connection, or tells why not.
func (t *torrent) join(peer int) {
	if peer < 0 || t.isConnected(peer) {
		return
	}
	if why := t.unwelcome(peer); why != api.OK {
		t.tell(api.Act{Kind: api.ActDrop, Peer: peer, Why: why})
		return
	}
	t.connections[peer] = &connection{reader: frame.New(true), pending: pending{heard: t.now}}
	t.send(peer, frame.Greet(t.greeting()))
	t.phase.enter(peer)
	t.phase.ask()
}

// unwelcome tells why a peer that isn't connected can't be; OK: it can.
func (t *torrent) unwelcome(peer int) api.Errno {
	if _, ok := t.banned[peer]; ok {
		return api.ErrBanned
	}
	if why := t.phase.shut(); why != api.OK {
		return why
	}
	if len(t.connections) >= api.MaxPeers {
		return api.ErrCrowd
	}
	return api.OK
}

// leave takes that a connection is gone.
func (t *torrent) leave(peer int) {
	if !t.isConnected(peer) {
		return
	}
	delete(t.connections, peer)
	t.phase.exit(peer)
	t.phase.ask()
}

// bytes takes what comes over a connection.
func (t *torrent) bytes(peer int, b []byte) {
	c := t.connections[peer]
	if c == nil {
		return
	}
	if len(b) > 0 {
		c.heard = t.now
	}
	met, bodies, fault := c.reader.Push(b)
	if t.greeted(peer, met) {
		t.heed(peer, met, bodies)
		t.judge(peer, fault)
	}
	t.phase.ask()
}

// judge closes a connection, if it still stands and there is a reason to.
func (t *torrent) judge(peer int, why api.Errno) {
	if why == api.OK || !t.isConnected(peer) {
		return
	}
	t.close(peer, why)
	t.phase.exit(peer)
}

// greeted takes a handshake, if it came; false: it is of another torrent.
func (t *torrent) greeted(peer int, met []api.Hello) bool {
	for _, h := range met {
		if h.Info != t.greeting().Info {
			t.judge(peer, api.ErrPeerInfo)
			return false
		}
		if isAble(h) {
			t.sayWish(peer, len(t.phase.dict()))
		}
	}
	return true
}

// heed takes what came: first all that is plain, then the extended messages. One of these can be the last part, and the next phase begin with what was plain.
func (t *torrent) heed(peer int, met []api.Hello, bodies [][]byte) {
	plain, extended := parted(bodies)
	t.judge(peer, t.phase.hear(peer, met, plain))
	for _, body := range extended {
		if !t.isConnected(peer) {
			return
		}
		t.judge(peer, t.extended(peer, body))
	}
}

// extended takes an extended message; why the connection is to be closed for it, if it is.
func (t *torrent) extended(peer int, body []byte) api.Errno {
	number, payload, e := extend.Open(body)
	if e != api.OK {
		return e
	}
	switch number {
	case wishNumber:
		return t.wish(peer, payload)
	case partsNumber:
		return t.sheet(peer, payload)
	}
	return api.OK
}

// wish takes what a peer wants, and what it says of the info dictionary.
func (t *torrent) wish(peer int, payload []byte) api.Errno {
	w, e := extend.DecodeWish(payload)
	if e != api.OK {
		return e
	}
	c := t.connections[peer]
	c.merge(w)
	return t.phase.sized(peer, c.wish.Size)
}

// sheet takes a message about a part.
func (t *torrent) sheet(peer int, payload []byte) api.Errno {
	s, e := extend.DecodeSheet(payload)
	if e == api.ErrExtKind {
		return api.OK // of a kind that may come to be
	}
	if e != api.OK {
		return e
	}
	switch s.Kind {
	case api.SheetAsk:
		t.give(peer, s.Part)
	case api.SheetData:
		done, e := t.phase.take(peer, s)
		if done {
			t.phase = next(t.phase)
		}
		return e
	case api.SheetNo:
		t.phase.refuse(peer, s.Part)
	}
	return api.OK
}

// give answers to a peer that asks for a part, if it can be answered.
func (t *torrent) give(peer, part int) {
	if t.connections[peer].number() == 0 {
		return
	}
	dict := t.phase.dict()
	answer := api.Sheet{Kind: api.SheetNo, Part: part}
	if b, e := exchange.Part(t.scale, dict, part); e == api.OK {
		answer = api.Sheet{Kind: api.SheetData, Part: part, Total: len(dict), Data: b}
	}
	t.saySheet(peer, answer)
}
