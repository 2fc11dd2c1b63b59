package hearth

import (
	"torrent/api"
	"torrent/disk"
)

// slot is a disk for one torrent. It is free, if it neither holds one nor is leaving.
type slot struct {
	disk    *disk.Disk
	held    *torrent
	leaving bool // its torrent was removed, and no Sync has come since
}

// torrent is what a slot holds.
type torrent struct {
	note
	number int       // among the client's, if it has not failed
	why    api.Errno // why it has failed; OK, if it has not
}

// find is a slot's torrent, or why there is none.
func (h *Home) find(at int) (*torrent, api.Errno) {
	switch {
	case h.missing():
		return nil, api.ErrNil
	case at < 0 || at >= len(h.slots) || h.slots[at].held == nil:
		return nil, api.ErrHomeSlot
	}
	return h.slots[at].held, api.OK
}

// number is what a slot's torrent is called by the client, or why there is none there.
func (h *Home) number(at int) (int, api.Errno) {
	t, e := h.find(at)
	if e != api.OK {
		return 0, e
	}
	return t.number, t.why
}

// free is the lowest free slot; false, if there is none.
func (h *Home) free() (int, bool) {
	for at, s := range h.slots {
		if s.held == nil && !s.leaving {
			return at, true
		}
	}
	return 0, false
}

// add takes a torrent into the lowest free slot.
func (h *Home) add(kind byte, body []byte) (at int, acts []api.Act, e api.Errno) {
	if h.missing() {
		return 0, nil, api.ErrNil
	}
	at, there := h.free()
	if !there {
		return 0, nil, api.ErrHomeDisk
	}
	t := &torrent{note: note{keyOf(at), kind}}
	defer func() {
		if e != api.OK {
			h.notes.Delete(t.key)
		}
	}()
	if e = h.notes.Put(t.key, t.value(body)); e != api.OK {
		return 0, nil, e
	}
	if !h.notes.haveRoom() {
		return 0, nil, api.ErrVaultFull
	}
	if acts = h.start(t, body, h.slots[at].disk); t.why != api.OK {
		return 0, nil, t.why
	}
	h.slots[at].held = t
	return at, acts, api.OK
}

// start hands a torrent to the client; the acts of its start.
func (h *Home) start(t *torrent, body []byte, d *disk.Disk) (acts []api.Act) {
	if t.kind == linkNote {
		t.number, t.why = h.client.AddLink(string(body), d)
	} else {
		t.number, acts, t.why = h.client.AddText(body, d)
	}
	return acts
}

// runs tells whether there is a torrent, and it has a session.
func (h *Home) runs(t *torrent) bool {
	if t == nil || t.why != api.OK {
		return false
	}
	s, e := h.client.State(t.number)
	return e == api.OK && s.Phase == api.PhaseRunning
}

// wipe sees to it that a disk holds no store.
func wipe(d *disk.Disk) {
	none := [api.Sector]byte{}
	b, e := d.Read(0)
	if e != api.OK || [api.Sector]byte(b) == none {
		return
	}
	d.Write(0, none[:])
	d.Sync()
}
