package hearth

import "torrent/api"

// Sync makes all last: what the torrents have, then the notes.
func (h *Home) Sync() api.Errno {
	if h.missing() {
		return api.ErrNil
	}
	return inTurn(
		func() api.Errno { return h.eachRunning(h.syncTorrent) },
		func() api.Errno { return h.eachRunning(h.noteText) },
		func() api.Errno { return h.notes.Commit() },
		func() api.Errno {
			h.clear()
			return api.OK
		},
	)
}

// eachRunning does something with each torrent that runs, by their slots, up to the first refusal.
func (h *Home) eachRunning(do func(*torrent) api.Errno) api.Errno {
	for _, s := range h.slots {
		if !h.runs(s.held) {
			continue
		}
		if e := do(s.held); e != api.OK {
			return e
		}
	}
	return api.OK
}

// syncTorrent makes last what a torrent has.
func (h *Home) syncTorrent(t *torrent) api.Errno { return h.client.Sync(t.number) }

// noteText turns a link's note into the text that the torrent runs with, if there is room: so nobody has to give the info dictionary again.
func (h *Home) noteText(t *torrent) api.Errno {
	if t.kind != linkNote {
		return api.OK
	}
	text, e := h.client.Text(t.number)
	if e != api.OK {
		return e
	}
	link, e := h.notes.Get(t.key)
	if e != api.OK {
		return e
	}
	next := note{t.key, textNote}
	if e := h.notes.Put(next.key, next.value(text)); e != api.OK || !h.notes.haveRoom() {
		return h.notes.Put(t.key, link)
	}
	t.note = next
	return api.OK
}

// clear wipes the disks of the slots that are leaving. It comes behind the commit: until then a crash can bring their torrents back.
func (h *Home) clear() {
	for at := range h.slots {
		s := &h.slots[at]
		if s.leaving {
			wipe(s.disk)
			s.leaving = false
		}
	}
}
