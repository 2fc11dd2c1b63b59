package disk

import "torrent/api"

// fuse counts the writes and syncs that are still taken.
type fuse struct {
	there bool
	left  int
}

func (f fuse) blown() bool { return f.there && f.left == 0 }

// burn takes one write or sync off the fuse. One that is blown, or not there, stays as it is.
func (f *fuse) burn() {
	if f.left > 0 {
		f.left--
	}
}

// Fuse lets so many more writes and syncs count; what comes behind them no crash keeps.
func (d *Disk) Fuse(n int) api.Errno {
	if d == nil {
		return api.ErrNil
	}
	if n < 0 {
		return api.ErrArg
	}
	if !d.fuse.blown() {
		d.fuse = fuse{there: true, left: n}
	}
	return api.OK
}

// Sync makes all that was written last.
func (d *Disk) Sync() api.Errno {
	if d == nil {
		return api.ErrNil
	}
	if d.fuse.blown() {
		return api.OK
	}
	d.lay(d.lasts)
	d.settle()
	d.fuse.burn()
	return api.OK
}

// Crash keeps the unsynced writes that keep names, and of one its first cut bytes.
func (d *Disk) Crash(keep []bool, torn, cut int) api.Errno {
	if d == nil {
		return api.ErrNil
	}
	if len(keep) != len(d.order) {
		return api.ErrSize
	}
	if torn < -1 || torn >= len(d.order) {
		return api.ErrArg
	}
	if torn != -1 && (cut < 0 || cut > api.Sector) {
		return api.ErrArg
	}
	for at, s := range d.unsynced {
		for _, w := range s.live {
			switch {
			case w.place == torn:
				copy(d.lasting(at), w.data[:cut])
			case keep[w.place]:
				copy(d.lasting(at), w.data[:])
			}
		}
	}
	d.settle()
	d.fuse = fuse{}
	return api.OK
}

// settle leaves no write unsynced.
func (d *Disk) settle() {
	clear(d.unsynced)
	d.order = nil
}
