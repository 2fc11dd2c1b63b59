package client

import (
	"bytes"

	"torrent/api"
	"torrent/bitset"
	"torrent/disk"
	"torrent/meta"
	"torrent/session"
	"torrent/span"
)

// running is a torrent that has a session.
type running struct {
	*common
	still
	session  *session.Session
	metainfo []byte
	from, to int   // where the info dictionary lies in it
	ends     []int // by file: the number of its last piece and one, which is how many pieces there are up to there
}

// run starts a session with a metainfo that nobody else has; what it finds on the disk is told.
func run(c *common, text []byte, d *disk.Disk) (*running, api.Errno) {
	s, acts, e := session.New(c.scale, text, c.info, c.me, d)
	if e != api.OK {
		return nil, e
	}
	// What a session was started with is a metainfo.
	m, _ := meta.Parse(c.scale, text)
	from, to, _ := span.Info(text)
	r := &running{common: c, session: s, metainfo: text, from: from, to: to, ends: ends(m)}
	r.name = m.Name
	r.relay(acts)
	return r, api.OK
}

// ends counts the pieces up to the end of each file.
func ends(m api.Meta) []int {
	l := make([]int, len(m.Files))
	n := 0
	for i, f := range m.Files {
		n += (f.Len + m.PieceLen - 1) / m.PieceLen
		l[i] = n
	}
	return l
}

// relay tells the acts of the session; whose connection it has closed is connected no longer here either.
func (r *running) relay(acts []api.Act) {
	for _, a := range acts {
		switch a.Kind {
		case api.ActBan:
			r.banned[a.Peer] = struct{}{}
			delete(r.connections, a.Peer)
		case api.ActDrop:
			delete(r.connections, a.Peer)
		}
		r.tell(a)
	}
}

// enter lets a peer join the session, whose first act is its own handshake: ours has gone out in its place.
func (r *running) enter(peer int) { r.relay(r.session.Join(peer)[1:]) }

func (r *running) exit(peer int) { r.relay(r.session.Leave(peer)) }

func (r *running) tick() { r.relay(r.session.Tick()) }

func (r *running) hear(peer int, met []api.Hello, plain [][]byte) api.Errno {
	if b := stream(met, plain); len(b) > 0 {
		r.relay(r.session.Bytes(peer, b))
	}
	return api.OK
}

// pieces is how many there are in all: a metainfo has a file at least.
func (r *running) pieces() int { return r.ends[len(r.ends)-1] }

func (r *running) dict() []byte { return r.metainfo[r.from:r.to] }

func (r *running) state() api.Status {
	s := r.status(api.PhaseRunning)
	have := r.session.Have()
	s.Pieces = r.pieces()
	s.Had, _ = bitset.Count(s.Pieces, have)
	s.Done = r.done(have)
	return s
}

// done tells of each file whether all its pieces are had.
func (r *running) done(have []byte) []bool {
	done := make([]bool, len(r.ends))
	gap, first := -1, 0 // the first piece from there on that is not had
	for i, end := range r.ends {
		if gap < first {
			gap, _ = bitset.Next(r.pieces(), have, first, false)
		}
		done[i] = gap >= end
		first = end
	}
	return done
}

func (r *running) text() ([]byte, api.Errno) { return bytes.Clone(r.metainfo), api.OK }

func (r *running) sync() api.Errno { return r.session.Sync() }

func (r *running) file(file int) ([]byte, api.Errno) { return r.session.File(file) }

func (r *running) answers() ([]api.Answer, api.Errno) { return r.session.Answers(), api.OK }
