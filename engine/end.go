package engine

import (
	"torrent/api"
	"torrent/disk"
	"torrent/session"
)

// me is our own peer number.
const me = "torrent-000000000000"

// end is a session on its disk, by itself or at one end of a wire.
type end struct {
	scale   api.Scale
	text    []byte
	info    api.Hash
	disk    *disk.Disk
	session *session.Session
	answers []api.Answer         // that the sessions ahead of this one took
	waits   []byte               // what the wire holds for it
	take    func(acts []api.Act) // what becomes of its acts
}

// start lets a session begin on what the disk holds, and answers what it finds there.
func (x *end) start() ([]api.Act, api.Errno) {
	s, acts, e := session.New(x.scale, x.text, x.info, [20]byte([]byte(me)), x.disk)
	x.session = s
	return acts, e
}

// play plays a move that has nothing to do with a wire.
func (x *end) play(m api.Move) {
	switch m.Kind {
	case api.MoveJoin:
		x.take(x.session.Join(m.Peer))
	case api.MoveBytes:
		x.take(x.session.Bytes(m.Peer, m.Data))
	case api.MoveLeave:
		x.take(x.session.Leave(m.Peer))
	case api.MoveTick:
		x.take(x.session.Tick())
	case api.MoveSync:
		x.session.Sync()
	case api.MoveCrash:
		x.crash(m)
	case api.MoveFuse:
		x.disk.Fuse(m.Cut)
	}
}

// crash lets the disk keep what the move says, and a new session begin on it.
func (x *end) crash(m api.Move) {
	x.answers = append(x.answers, x.session.Answers()...)
	n := len(x.disk.Pending())
	keep := make([]bool, n)
	copy(keep, m.Keep)
	torn := -1
	if m.Torn >= 0 && m.Torn < n && m.Cut >= 0 && m.Cut <= api.Sector {
		torn = m.Torn
	}
	x.disk.Crash(keep, torn, m.Cut)
	acts, _ := x.start() // it can: what a crash leaves of a store is a store (P14.11)
	x.take(acts)
}

// done tells how many files are complete, up to the first that isn't; of the first n it is known that they are, and each is read but once.
func (x *end) done(n int) int {
	for n < x.session.Files() {
		if _, e := x.session.File(n); e != api.OK {
			break
		}
		n++
	}
	return n
}

// close lays into a report what stands in the end: nothing, if no session could start.
func (x *end) close(report *api.Report) {
	report.Have = x.session.Have()
	for i := range x.session.Files() {
		b, e := x.session.File(i)
		report.Done = append(report.Done, e == api.OK)
		report.Files = append(report.Files, b)
	}
	report.Answers = append(x.answers, x.session.Answers()...)
}

// laying makes what lays acts into the last element of a report's.
func laying(report *api.Report) func([]api.Act) {
	return func(acts []api.Act) {
		last := &report.Acts[len(report.Acts)-1]
		*last = append(*last, acts...)
	}
}

// turn gives a step of the script an element of its own in the report's acts.
func turn(report *api.Report, step func()) {
	report.Acts = append(report.Acts, nil)
	step()
}
