package client

import (
	"maps"
	"slices"

	"torrent/api"
	"torrent/extend"
	"torrent/frame"
)

// common is what a torrent has in whatever phase it is.
type common struct {
	scale       api.Scale
	me          [20]byte
	info        api.Hash
	name        string              // the metainfo's; ahead of that, the link's
	now         int                 // the ticks that it has waited
	connections map[int]*connection // by the peer
	banned      map[int]struct{}
	acts        []api.Act // of the call that is under way, in their order
}

func newCommon(sc api.Scale, me [20]byte, info api.Hash) *common {
	return &common{scale: sc, me: me, info: info, connections: map[int]*connection{}, banned: map[int]struct{}{}}
}

// connection is one to a peer.
type connection struct {
	reader *frame.Reader
	wish   api.Wish // the number for parts and the size
	pending
}

// pending is what is kept of a connection while the torrent is waiting.
type pending struct {
	hello   []api.Hello // the handshake; none, as long as it has not come
	backlog [][]byte
	strikes int
	heard   int // the time at which something came last
}

// number is the peer's number for parts; 0, if it has none.
func (c *connection) number() int {
	n, _ := extend.Number(c.wish, parts)
	return n
}

// merge lays a wish over the earlier ones. Of what they tell no more is kept than is asked of it, so that who tells much takes no room.
func (c *connection) merge(w api.Wish) {
	all := extend.Merge(c.wish, w)
	n, _ := extend.Number(all, parts) // switched off and never told are the same
	c.wish = api.Wish{Names: []api.Named{{Name: parts, ID: n}}, Size: all.Size}
}

// peers lists the peers that are connected, rising.
func (c *common) peers() []int { return slices.Sorted(maps.Keys(c.connections)) }

// status is how things stand, as far as all phases have it.
func (c *common) status(phase int) api.Status {
	return api.Status{Phase: phase, Info: c.info, Name: c.name, Peers: c.peers()}
}

// isConnected tells whether a peer is.
func (c *common) isConnected(peer int) bool { return c.connections[peer] != nil }

// tell puts an act behind the others of the call.
func (c *common) tell(act api.Act) { c.acts = append(c.acts, act) }

// told hands out the acts of the call, which nobody else sees then.
func (c *common) told() []api.Act {
	acts := c.acts
	c.acts = nil
	return acts
}

// send lets bytes go to a peer.
func (c *common) send(peer int, b []byte) {
	c.tell(api.Act{Kind: api.ActSend, Peer: peer, Data: b})
}

// close closes a connection, and bans the peer if it has lied. What the phase knows of the connection stays.
func (c *common) close(peer int, why api.Errno) {
	act := api.Act{Kind: api.ActDrop, Peer: peer, Why: why}
	if why == api.ErrPartLie {
		act.Kind = api.ActBan
		c.banned[peer] = struct{}{}
	}
	c.tell(act)
	delete(c.connections, peer)
}
