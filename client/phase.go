package client

import "torrent/api"

// phase is what a torrent does in one way while it is waiting, in another while it is running, and not at all when it is bad.
type phase interface {
	// Connections.
	shut() api.Errno // why there can be none; OK: there can
	enter(peer int)  // one stands now
	exit(peer int)   // one stands no longer
	tick()

	// What comes: a handshake perhaps, with bodies that are not extended. The answer is why the connection is to be closed for it, if it is.
	hear(peer int, met []api.Hello, plain [][]byte) api.Errno

	// The getting of the info dictionary.
	sized(peer, size int) api.Errno
	take(peer int, s api.Sheet) (bool, api.Errno) // true: it is there, and the next phase begins
	refuse(peer, part int)
	ask()

	// What is there.
	dict() []byte // the info dictionary; no bytes, if it isn't there
	state() api.Status
	text() ([]byte, api.Errno)
	sync() api.Errno
	file(file int) ([]byte, api.Errno)
	answers() ([]api.Answer, api.Errno)
}

// next is the phase that follows when one has come to its end. Only who waits goes on to another.
func next(p phase) phase {
	switch p := p.(type) {
	case *waiting:
		return p.turn()
	default:
		return p
	}
}

// still is a phase in which nothing comes of anything. Each phase embeds it, for what it does not do.
type still struct{}

func (still) shut() api.Errno { return api.OK }

func (still) enter(peer int) {}

func (still) exit(peer int) {}

func (still) tick() {}

func (still) hear(peer int, met []api.Hello, plain [][]byte) api.Errno { return api.OK }

func (still) sized(peer, size int) api.Errno { return api.OK }

func (still) take(peer int, s api.Sheet) (bool, api.Errno) { return false, api.OK }

func (still) refuse(peer, part int) {}

func (still) ask() {}

func (still) dict() []byte { return nil }

func (still) text() ([]byte, api.Errno) { return nil, api.ErrWaiting }

func (still) sync() api.Errno { return api.ErrWaiting }

func (still) file(file int) ([]byte, api.Errno) { return nil, api.ErrWaiting }

func (still) answers() ([]api.Answer, api.Errno) { return nil, api.ErrWaiting }
