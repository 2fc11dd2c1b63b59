package journal

import (
	"cmp"
	"slices"

	"torrent/api"
	"torrent/disk"
)

// minCount is how many sectors a ring has at least.
const minCount = 3

// ring is a run of a disk's sectors that records go round on.
type ring struct {
	disk         *disk.Disk
	first, count int
}

// ringOn is that ring, if it may be.
func ringOn(d *disk.Disk, first, count int) (ring, api.Errno) {
	if d == nil {
		return ring{}, api.ErrNil
	}
	// A difference, since a sum of the two could be past the greatest int.
	if count < minCount || first < 0 || first > d.Size()-count {
		return ring{}, api.ErrRing
	}
	return ring{d, first, count}, api.OK
}

// end is the sector behind the last one.
func (g ring) end() int { return g.first + g.count }

// slot is the sector of the record with that number.
func (g ring) slot(seq int) int { return g.first + (seq-1)%g.count }

// among tells whether a sector is the slot of one of n numbers from seq on.
func (g ring) among(at, seq, n int) bool {
	return (at-g.slot(seq)+g.count)%g.count < n
}

// read is the record that a sector holds, if it holds one.
func (g ring) read(at int) (record, bool) {
	b, e := g.disk.Read(at)
	if e != api.OK {
		return record{}, false
	}
	r, ok := parse([api.Sector]byte(b))
	if !ok || g.slot(r.Seq) != at {
		return record{}, false
	}
	r.place = at
	return r, true
}

// write lays a record into its sector.
func (g ring) write(r record) api.Errno {
	b := r.text()
	return g.disk.Write(r.place, b[:])
}

// wipe leaves nothing in a sector.
func (g ring) wipe(at int) api.Errno { return g.disk.Write(at, make([]byte, api.Sector)) }

// blank tells whether there is nothing in a sector.
func (g ring) blank(at int) bool {
	b, _ := g.disk.Read(at)
	return !slices.ContainsFunc(b, func(c byte) bool { return c != 0 })
}

// records are all that the ring holds, by rising number.
func (g ring) records() []record {
	var all []record
	for at := g.first; at < g.end(); at++ {
		if r, ok := g.read(at); ok {
			all = append(all, r)
		}
	}
	slices.SortFunc(all, func(a, b record) int { return cmp.Compare(a.Seq, b.Seq) })
	return all
}

// kept are, of all records of a ring by rising number, those from the low of the last whole one up to it.
func kept(all []record) []record {
	run, from, to := 0, 0, 0 // run is where the numbers begin that follow on each other without a gap
	for i, r := range all {
		if i > 0 && all[i-1].Seq != r.Seq-1 {
			run = i
		}
		if r.low >= all[run].Seq {
			from, to = i-(r.Seq-r.low), i+1
		}
	}
	return all[from:to]
}
