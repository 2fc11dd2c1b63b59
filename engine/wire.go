package engine

import (
	"slices"

	"torrent/api"
	"torrent/create"
	"torrent/disk"
	"torrent/meta"
	"torrent/span"
	"torrent/store"
)

// wire joins two ends, each of which has the other one as its peer 0.
type wire struct {
	taker, giver *end
	cut          bool
}

// between joins two ends; what the taker does is told, too.
func between(taker, giver *end, tell func([]api.Act)) *wire {
	w := &wire{taker: taker, giver: giver}
	giver.take = func(acts []api.Act) { w.heed(acts, taker) }
	taker.take = func(acts []api.Act) {
		tell(acts)
		w.heed(acts, giver)
	}
	return w
}

// heed lets wait for the other end what was sent to it; a wire that is closed at one end is cut.
func (w *wire) heed(acts []api.Act, other *end) {
	closed := false
	for _, a := range acts {
		switch {
		case a.Kind == api.ActSend && a.Peer == 0:
			other.waits = append(other.waits, a.Data...)
		case (a.Kind == api.ActDrop || a.Kind == api.ActBan) && a.Peer == 0:
			closed = true
		}
	}
	if closed {
		w.cut = true
		w.leave(other)
	}
}

// leave lets an end see that the wire is gone, with all that it held.
func (w *wire) leave(x *end) {
	x.take(x.session.Leave(0))
	w.taker.waits, w.giver.waits = nil, nil
}

// lay lets the two ends meet, if both of them will. Nothing waits: it was let go when they parted.
func (w *wire) lay() {
	w.cut = false
	w.taker.take(w.taker.session.Join(0))
	if !w.cut {
		w.giver.take(w.giver.session.Join(0))
	}
}

// start lets the two sessions begin, and lays the wire.
func (w *wire) start(report *api.Report) api.Errno {
	if _, e := w.giver.start(); e != api.OK {
		return e
	}
	acts, e := w.taker.start()
	if e != api.OK {
		return e
	}
	turn(report, func() {
		w.taker.take(acts)
		w.lay()
	})
	return api.OK
}

// play plays a move.
func (w *wire) play(m api.Move) {
	switch m.Kind {
	case api.MoveTick:
		w.tick()
	case api.MoveCrash:
		w.leave(w.giver)
		w.taker.play(m)
		w.lay()
	case api.MoveWire:
		w.carry()
	default:
		w.taker.play(m)
	}
}

// tick lets time go on for both.
func (w *wire) tick() {
	if w.cut {
		w.lay()
	}
	w.taker.take(w.taker.session.Tick())
	w.giver.take(w.giver.session.Tick())
}

// carry brings what waits: first to the giver, then, with what that answered, to the taker.
func (w *wire) carry() {
	for _, x := range []*end{w.giver, w.taker} {
		if b := x.waits; len(b) > 0 {
			x.waits = nil
			x.take(x.session.Bytes(0, b))
		}
	}
}

// waiting tells whether there is something to carry.
func (w *wire) waiting() bool { return len(w.taker.waits)+len(w.giver.waits) > 0 }

// calm lets time go on, with nobody else coming, until all files are complete or nothing more is to be hoped for.
func (w *wire) calm(report *api.Report) {
	rounds, _ := Calm(w.taker.scale, w.taker.text)
	done := 0
	for range rounds {
		if done = w.taker.done(done); done == w.taker.session.Files() {
			return
		}
		turn(report, w.round)
	}
}

// round is a tick and all talk that follows from it, up to a bound.
func (w *wire) round() {
	w.tick()
	for i := 0; i < api.Hops && w.waiting(); i++ {
		w.carry()
	}
}

// giverOf makes a torrent of files, and an end whose disk holds them.
func giverOf(sc api.Scale, name string, pieceLen int, files []api.Source) (*end, api.Errno) {
	text, e := create.Create(sc, name, pieceLen, files)
	if e != api.OK {
		return nil, e
	}
	n, e := Sectors(sc, text)
	if e != api.OK {
		return nil, e
	}
	d, e := disk.New(n)
	if e != api.OK {
		return nil, e
	}
	info, e := meta.Infohash(sc, text)
	if e != api.OK {
		return nil, e
	}
	x := &end{scale: sc, text: text, info: info, disk: d}
	if e := x.fill(files); e != api.OK {
		return nil, e
	}
	return x, api.OK
}

// fill lays the files' pieces on the disk.
func (x *end) fill(files []api.Source) api.Errno {
	m, e := meta.Parse(x.scale, x.text)
	if e != api.OK {
		return e
	}
	list, e := create.List(x.scale, m)
	if e != api.OK {
		return e
	}
	pieces, e := create.Slice(m, files)
	if e != api.OK {
		return e
	}
	s, e := store.Open(x.scale, x.disk, x.info, list)
	if e != api.OK {
		return e
	}
	for i, b := range pieces {
		if e := putPiece(s, i, b, x.scale.Block); e != api.OK {
			return e
		}
	}
	return s.Sync()
}

// putPiece lays a piece into a store, block by block.
func putPiece(s *store.Store, piece int, data []byte, block int) api.Errno {
	at := 0
	for b := range slices.Chunk(data, block) {
		if e := s.Put(piece, at, b); e != api.OK {
			return e
		}
		at += len(b)
	}
	return s.Finish(piece)
}

// takerFrom makes the other end for a giver, on an empty disk; a bare one is told no piece layers.
func takerFrom(giver *end, bare bool) (*end, api.Errno) {
	d, e := disk.New(giver.disk.Size())
	if e != api.OK {
		return nil, e
	}
	text := giver.text
	if bare {
		text, e = span.Put(text, []api.Step{{Key: "piece layers"}}, []byte("de"))
		if e != api.OK {
			return nil, e
		}
	}
	return &end{scale: giver.scale, text: text, info: giver.info, disk: d}, api.OK
}
