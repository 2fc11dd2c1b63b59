package client

import (
	"torrent/api"
	"torrent/extend"
	"torrent/frame"
)

// The kind of extended messages among others, and our numbers for them.
const (
	extendedKind = 20
	wishNumber   = 0
	partsNumber  = 1
)

// parts is what the extension is called by which the info dictionary is given.
const parts = "ut_metadata"

// agent is who we are.
const agent = "torrent"

// isAble tells whether who sent this handshake takes extended messages.
func isAble(h api.Hello) bool { return h.Flags[5]&16 != 0 }

// greeting is our handshake.
func (c *common) greeting() api.Hello {
	return api.Hello{Flags: [8]byte{5: 16, 7: 16}, Info: [20]byte(c.info[:20]), Peer: c.me}
}

// say lets an extended message go to a peer. What we say is never too long.
func (c *common) say(peer, number int, payload []byte) {
	body, _ := extend.Body(number, payload)
	text, _ := frame.Wrap(body)
	c.send(peer, text)
}

// sayWish tells a peer what we want, and how many bytes the info dictionary has.
func (c *common) sayWish(peer, size int) {
	text, _ := extend.EncodeWish(api.Wish{
		Names: []api.Named{{Name: parts, ID: partsNumber}},
		Size:  size,
		Queue: api.MaxQueue,
		Agent: agent,
	})
	c.say(peer, wishNumber, text)
}

// saySheet says a sheet to a peer that has a number for it.
func (c *common) saySheet(peer int, s api.Sheet) {
	text, _ := extend.EncodeSheet(s)
	c.say(peer, c.connections[peer].number(), text)
}

// parted parts bodies into plain and extended ones.
func parted(bodies [][]byte) ([][]byte, [][]byte) {
	var plain, extended [][]byte
	for _, b := range bodies {
		if len(b) > 0 && b[0] == extendedKind {
			extended = append(extended, b)
		} else {
			plain = append(plain, b)
		}
	}
	return plain, extended
}

// stream puts together again what came: perhaps a handshake, and frames behind it.
func stream(met []api.Hello, bodies [][]byte) []byte {
	var b []byte
	for _, h := range met {
		b = append(b, frame.Greet(h)...)
	}
	for _, body := range bodies {
		text, _ := frame.Wrap(body)
		b = append(b, text...)
	}
	return b
}
