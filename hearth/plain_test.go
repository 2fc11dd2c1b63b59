package hearth_test

import (
	"fmt"
	"regexp"
	"strconv"

	"torrent/api"
	"torrent/client"
	"torrent/digest"
	"torrent/disk"
	"torrent/vault"
)

// plain is a home as the document tells of it, with disks, a vault and a client of its own.
type plain struct {
	notes   *disk.Disk
	disks   []*disk.Disk
	v       *vault.Vault
	c       *client.Client
	hand    map[int]string // the notes at hand by slot: who has one holds a torrent
	number  map[int]int
	why     map[int]api.Errno
	leaving map[int]bool
}

var keyForm = regexp.MustCompile("^slot (0|[1-9][0-9]*)$")

// plainly opens a plain home.
func plainly(sc api.Scale, me [20]byte, notes *disk.Disk, disks []*disk.Disk) (*plain, [][]api.Act, api.Errno) {
	p := &plain{notes: notes, disks: disks, hand: map[int]string{}, number: map[int]int{}, why: map[int]api.Errno{}, leaving: map[int]bool{}}
	if e := digest.Good(sc); e != api.OK {
		return nil, nil, e
	}
	for _, d := range append([]*disk.Disk{notes}, disks...) {
		if d == nil {
			return nil, nil, api.ErrNil
		}
	}
	var e api.Errno
	if p.v, e = vault.Open(notes, 0, notes.Size()); e == api.ErrVaultBad {
		vault.Format(notes, 0, notes.Size())
		p.v, e = vault.Open(notes, 0, notes.Size())
	}
	if e != api.OK {
		return nil, nil, e
	}
	for _, key := range p.v.Keys() {
		m := keyForm.FindStringSubmatch(key)
		if m == nil {
			return nil, nil, api.ErrHomeNote
		}
		at, err := strconv.Atoi(m[1])
		if err != nil || at >= len(disks) {
			return nil, nil, api.ErrHomeDisk
		}
		b, _ := p.v.Get(key)
		if len(b) == 0 || b[0] != 76 && b[0] != 84 {
			return nil, nil, api.ErrHomeNote
		}
		p.hand[at] = string(b)
	}
	for at, d := range disks {
		if !p.holds(at) {
			plainWipe(d)
		}
	}
	p.c, _ = client.New(sc, me)
	acts := make([][]api.Act, len(disks))
	for at := range disks {
		if p.holds(at) {
			acts[at] = p.start(at)
		}
	}
	return p, acts, api.OK
}

func plainWipe(d *disk.Disk) {
	b, _ := d.Read(0)
	for _, x := range b {
		if x != 0 {
			d.Write(0, make([]byte, 64))
			d.Sync()
			return
		}
	}
}

func (p *plain) holds(at int) bool { return p.hand[at] != "" }

func (p *plain) start(at int) (acts []api.Act) {
	if p.hand[at][0] == 'L' {
		p.number[at], p.why[at] = p.c.AddLink(p.hand[at][1:], p.disks[at])
	} else {
		p.number[at], acts, p.why[at] = p.c.AddText([]byte(p.hand[at][1:]), p.disks[at])
	}
	return acts
}

// lay gives the vault the notes at hand.
func (p *plain) lay() {
	for _, key := range p.v.Keys() {
		p.v.Delete(key)
	}
	for at, s := range p.hand {
		p.v.Put(fmt.Sprint("slot ", at), []byte(s))
	}
}

// room tells whether the notes have room.
func (p *plain) room() bool {
	p.lay()
	n, k := 0, 0
	for at, s := range p.hand {
		n += (len(s) + 59) / 60
		k += 17 + len(fmt.Sprint("slot ", at))
	}
	return n+2*((k+59)/60) <= p.notes.Size()-2 && p.v.Need() <= p.v.Free()
}

func (p *plain) add(note string) (int, []api.Act, api.Errno) {
	at := 0
	for p.holds(at) || p.leaving[at] {
		at++
	}
	switch {
	case at >= len(p.disks):
		return 0, nil, api.ErrHomeDisk
	case len(note) > 2097152:
		return 0, nil, api.ErrVaultSize
	}
	p.hand[at] = note
	if !p.room() {
		delete(p.hand, at)
		return 0, nil, api.ErrVaultFull
	}
	acts := p.start(at)
	if e := p.why[at]; e != api.OK {
		delete(p.hand, at)
		return 0, nil, e
	}
	return at, acts, api.OK
}

func (p *plain) remove(at int) api.Errno {
	if !p.holds(at) {
		return api.ErrHomeSlot
	}
	if p.why[at] == api.OK {
		p.c.Remove(p.number[at])
	}
	delete(p.hand, at)
	p.leaving[at] = true
	return api.OK
}

func (p *plain) running(at int) bool {
	if !p.holds(at) || p.why[at] != api.OK {
		return false
	}
	s, _ := p.c.State(p.number[at])
	return s.Phase == api.PhaseRunning
}

func (p *plain) sync() api.Errno {
	for at := range p.disks {
		if p.running(at) {
			p.c.Sync(p.number[at])
		}
	}
	for at := range p.disks {
		if link := p.hand[at]; p.running(at) && link[0] == 'L' {
			text, _ := p.c.Text(p.number[at])
			if p.hand[at] = "T" + string(text); !p.room() {
				p.hand[at] = link
			}
		}
	}
	p.lay()
	if e := p.v.Commit(); e != api.OK {
		return e
	}
	for at, d := range p.disks {
		if p.leaving[at] {
			plainWipe(d)
		}
	}
	clear(p.leaving)
	return api.OK
}

// asked is the client's number of a slot's torrent, or the error that File, Text and Answers have.
func (p *plain) asked(at int) (int, api.Errno) {
	if !p.holds(at) {
		return 0, api.ErrHomeSlot
	}
	return p.number[at], p.why[at]
}

func (p *plain) state(at int) (api.Status, api.Errno) {
	n, e := p.asked(at)
	switch {
	case !p.holds(at):
		return api.Status{}, e
	case e != api.OK:
		return api.Status{Phase: api.PhaseBad, Why: e}, api.OK
	}
	return p.c.State(n)
}

// talk is one of the calls that bring acts.
func (p *plain) talk(at, peer int, joins bool, call func(number int) []api.Act) []api.Act {
	n, e := p.asked(at)
	switch {
	case !p.holds(at):
		return nil
	case e == api.OK:
		return call(n)
	case joins && peer >= 0:
		return []api.Act{{Kind: api.ActDrop, Peer: peer, Why: e}}
	}
	return nil
}
