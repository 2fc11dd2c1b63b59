package vault

import "torrent/api"

// sign is the first byte of each head.
const sign = 86

// Where the parts of a head begin in its sector.
const (
	numberAt    = 1
	directoryAt = 5
	zerosAt     = directoryAt + leadSize
	sumAt       = 52
	againAt     = 60
)

// head says that a commit holds, and where its directory is.
type head struct {
	number    int
	directory lead
}

// text is what the sector of a head has.
func (h head) text() sector {
	var b sector
	b[0] = sign
	setNumber(b[numberAt:], h.number)
	directory := h.directory.text()
	copy(b[directoryAt:zerosAt], directory[:])
	own := sumOf(b[:sumAt])
	copy(b[sumAt:againAt], own[:])
	setNumber(b[againAt:], h.number)
	return b
}

// slot is which of the area's sectors the head lies in.
func (h head) slot() int { return h.number % heads }

// writeHead writes a head, and makes it last.
func (a area) writeHead(h head) api.Errno {
	if e := a.write(h.slot(), h.text()); e != api.OK {
		return e
	}
	return a.disk.Sync()
}

// headIn is the one that a sector of the area has, wherever it leads.
func (a area) headIn(at int) (head, bool) {
	b := a.read(at)
	h := head{numberIn(b[numberAt:]), leadIn([leadSize]byte(b[directoryAt:zerosAt]))}
	if h.number == 0 || h.slot() != at || h.text() != b {
		return head{}, false
	}
	return h, true
}
