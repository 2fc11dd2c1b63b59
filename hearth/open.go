package hearth

import (
	"slices"

	"torrent/api"
	"torrent/client"
	"torrent/disk"
)

// inTurn takes one step behind the other, up to the first that refuses.
func inTurn(steps ...func() api.Errno) api.Errno {
	for _, step := range steps {
		if e := step(); e != api.OK {
			return e
		}
	}
	return api.OK
}

// Open starts with what the vault's disk says; the acts of the starts, by slot.
func Open(sc api.Scale, me [20]byte, notes *disk.Disk, disks []*disk.Disk) (*Home, [][]api.Act, api.Errno) {
	h := &Home{}
	e := inTurn(
		// The client looks at the scale, which counts ahead of all else.
		func() (e api.Errno) {
			h.client, e = client.New(sc, me)
			return e
		},
		func() api.Errno {
			if notes == nil || slices.Contains(disks, nil) {
				return api.ErrNil
			}
			return api.OK
		},
		func() (e api.Errno) {
			h.notes, e = openNotes(notes)
			return e
		},
		func() api.Errno { return h.settle(disks) },
	)
	if e != api.OK {
		return nil, nil, e
	}
	h.wipeFree()
	return h, h.startHeld(), api.OK
}

// settle makes the slots, and lets each hold what the notes say.
func (h *Home) settle(disks []*disk.Disk) api.Errno {
	h.slots = make([]slot, len(disks))
	for at, d := range disks {
		h.slots[at].disk = d
	}
	for _, key := range h.notes.Keys() {
		at, is := slotOf(key)
		if !is {
			return api.ErrHomeNote
		}
		if at >= len(h.slots) {
			return api.ErrHomeDisk
		}
		value, _ := h.notes.Get(key)
		if !isNote(value) {
			return api.ErrHomeNote
		}
		h.slots[at].held = &torrent{note: note{key, value[0]}}
	}
	return api.OK
}

// wipeFree wipes the disks of the slots without a note: what lies there was never made to last, or was removed.
func (h *Home) wipeFree() {
	for _, s := range h.slots {
		if s.held == nil {
			wipe(s.disk)
		}
	}
}

// startHeld starts all torrents that the slots hold; the acts, by slot.
func (h *Home) startHeld() [][]api.Act {
	acts := make([][]api.Act, len(h.slots))
	for at, s := range h.slots {
		if s.held != nil {
			value, _ := h.notes.Get(s.held.key)
			acts[at] = h.start(s.held, value[1:], s.disk)
		}
	}
	return acts
}
