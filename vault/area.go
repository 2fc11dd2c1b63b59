package vault

import (
	"torrent/api"
	"torrent/disk"
)

const (
	heads    = 2 // sectors ahead of an area's places
	minCount = heads + 1
)

type sector = [api.Sector]byte

// area is a run of a disk's sectors: the heads, and behind them the places.
type area struct {
	disk         *disk.Disk
	first, count int
}

// areaOn is that area, if it may be.
func areaOn(d *disk.Disk, first, count int) (area, api.Errno) {
	if d == nil {
		return area{}, api.ErrNil
	}
	// A difference, since a sum of the two could be past the greatest int.
	if count < minCount || first < 0 || first > d.Size()-count {
		return area{}, api.ErrVaultArea
	}
	return area{d, first, count}, api.OK
}

// places is how many places there are.
func (a area) places() int { return a.count - heads }

// read is what the area's sector of that number holds; zeros, if the disk does not tell.
func (a area) read(at int) sector {
	b, e := a.disk.Read(a.first + at)
	if e != api.OK {
		return sector{}
	}
	return sector(b)
}

// write lays a sector into the area.
func (a area) write(at int, b sector) api.Errno { return a.disk.Write(a.first+at, b[:]) }
