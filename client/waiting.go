package client

import (
	"slices"

	"torrent/api"
	"torrent/disk"
	"torrent/exchange"
	"torrent/frame"
)

// What stands around the info dictionary in the metainfo of a torrent of which there is nothing else.
const (
	aheadOfDict  = "d4:info"
	behindOfDict = "12:piece layersdee"
)

// waiting is a torrent whose info dictionary is not there.
type waiting struct {
	*common
	still
	disk  *disk.Disk
	fetch *exchange.Fetch
}

// wait is a torrent that has an infohash, and nobody to ask yet.
func wait(c *common, d *disk.Disk) *waiting {
	f, _ := exchange.New(c.scale, c.info) // a client's scale is good
	return &waiting{common: c, disk: d, fetch: f}
}

func (w *waiting) exit(peer int) { w.fetch.Drop(peer) }

// hear keeps what came for the session to come.
func (w *waiting) hear(peer int, met []api.Hello, plain [][]byte) api.Errno {
	c := w.connections[peer]
	c.hello = append(c.hello, met...)
	for _, body := range plain {
		if len(body) > 0 {
			c.backlog = append(c.backlog, body)
		}
	}
	if len(c.backlog) > api.MaxBacklog {
		return api.ErrBacklog
	}
	return api.OK
}

// tick is a tick of time: who is late too often, or silent too long, is let go.
func (w *waiting) tick() {
	w.now++
	for _, peer := range w.fetch.Expire(w.now) {
		w.connections[peer].strikes++ // only who is connected is asked for anything
	}
	for _, peer := range w.peers() {
		switch c := w.connections[peer]; {
		case c.strikes >= api.Strikes:
			w.drop(peer, api.ErrSlow)
		case w.now-c.heard >= api.Quiet:
			w.drop(peer, api.ErrQuiet)
		}
	}
	if w.now%api.Beat == 0 {
		w.beat()
	}
	w.ask()
}

func (w *waiting) drop(peer int, why api.Errno) {
	w.close(peer, why)
	w.exit(peer)
}

// beat tells all whose handshake came that we are alive.
func (w *waiting) beat() {
	for _, peer := range w.peers() {
		if c := w.connections[peer]; len(c.hello) > 0 {
			alive, _ := frame.Wrap(nil)
			w.send(peer, alive)
		}
	}
}

// sized takes what a peer says of the size; 0: nothing.
func (w *waiting) sized(peer, size int) api.Errno {
	if size == 0 {
		return api.OK
	}
	return w.fetch.Size(peer, size)
}

// take takes a part. One that is not asked for, or not any more, is nobody's fault.
func (w *waiting) take(peer int, s api.Sheet) (bool, api.Errno) {
	done, e := w.fetch.Take(peer, s.Part, s.Total, s.Data)
	if e == api.ErrUnasked {
		return false, api.OK
	}
	return done, e
}

func (w *waiting) refuse(peer, part int) { w.fetch.Refuse(peer, part) }

// ask asks each peer that can be asked for the part that it is to give next.
func (w *waiting) ask() {
	for _, peer := range w.peers() {
		if w.connections[peer].number() == 0 {
			continue
		}
		if part, ok, _ := w.fetch.Next(peer, w.now); ok {
			w.saySheet(peer, api.Sheet{Kind: api.SheetAsk, Part: part})
		}
	}
}

func (w *waiting) state() api.Status { return w.status(api.PhaseWaiting) }

// turn ends the waiting: a session starts with the info dictionary, and hears what has come meanwhile.
func (w *waiting) turn() phase {
	dict, _ := w.fetch.Info()
	text := slices.Concat([]byte(aheadOfDict), dict, []byte(behindOfDict))
	r, e := run(w.common, text, w.disk)
	if e != api.OK {
		for _, peer := range w.peers() {
			w.close(peer, e)
		}
		return &bad{common: w.common, why: e, metainfo: text}
	}
	for _, peer := range w.peers() {
		c := w.connections[peer]
		r.enter(peer)
		r.hear(peer, c.hello, c.backlog)
		c.pending = pending{}
	}
	return r
}
