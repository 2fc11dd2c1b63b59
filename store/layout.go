package store

import (
	"math/bits"
	"slices"

	"torrent/api"
	"torrent/digest"
	"torrent/disk"
	"torrent/journal"
)

// Where all lies: the head, the ring of the journal, the pieces.
const (
	headAt    = 0
	ringAt    = 1
	ringSpare = 3 // the ring's sectors beyond one for each piece
)

// What lies where in the head.
const (
	headBegin = "torrent2"
	headEnd   = "endstore"
	digestAt  = 48
	endAt     = 56
)

type sector = [api.Sector]byte

// Need tells how many sectors the pieces want.
func Need(sc api.Scale, ps []api.Piece) (int, api.Errno) {
	if e := digest.Good(sc); e != api.OK {
		return 0, e
	}
	if len(ps) > api.MaxPieces {
		return 0, api.ErrStorePiece
	}
	if slices.ContainsFunc(ps, func(p api.Piece) bool { return !mayBe(sc, p) }) {
		return 0, api.ErrStorePiece
	}
	return piecesAt(len(ps)) + sectorsOf(ps), api.OK
}

// mayBe tells whether there can be such a piece at a good scale.
func mayBe(sc api.Scale, p api.Piece) bool {
	if p.Leaves < 1 || p.Leaves > api.MaxPieceBlocks || bits.OnesCount(uint(p.Leaves)) != 1 {
		return false
	}
	return p.Len >= 1 && p.Len <= p.Leaves*sc.Block
}

// ringCount is how many sectors the ring of n pieces has.
func ringCount(n int) int { return n + ringSpare }

// piecesAt is where the first of n pieces begins.
func piecesAt(n int) int { return ringAt + ringCount(n) }

// sectorsOf is how many sectors all pieces have together.
func sectorsOf(ps []api.Piece) int {
	sum := 0
	for _, p := range ps {
		sum += runs(p.Len, api.Sector)
	}
	return sum
}

// runs is how many runs of a size n bytes make, the last one shorter perhaps.
func runs(n, size int) int { return (n + size - 1) / size }

// headOf is the head of a torrent's disk.
func headOf(mark api.Hash, ps []api.Piece) sector {
	b := append(make([]byte, 0, api.Sector), headBegin...)
	b = append(b, fourBytes(len(ps))...)
	b = append(b, fourBytes(sectorsOf(ps))...)
	b = append(b, mark[:]...)
	sum := digest.Sum(b)
	b = append(b, sum[:endAt-digestAt]...)
	return sector(append(b, headEnd...))
}

// goodHead tells whether a sector holds the head of some torrent.
func goodHead(b sector) bool {
	sum := digest.Sum(b[:digestAt])
	return string(b[:len(headBegin)]) == headBegin && string(b[endAt:]) == headEnd &&
		slices.Equal(b[digestAt:endAt], sum[:endAt-digestAt])
}

// fourBytes is a number with its highest byte first.
func fourBytes(n int) []byte { return []byte{byte(n >> 24), byte(n >> 16), byte(n >> 8), byte(n)} }

// numberIn is the number that four bytes are.
func numberIn(b []byte) int { return int(b[0])<<24 | int(b[1])<<16 | int(b[2])<<8 | int(b[3]) }

// prepare sees to it that a disk has that head; one with the head of another torrent is refused.
func prepare(d *disk.Disk, head sector, pieces int) api.Errno {
	b, e := d.Read(headAt)
	if e != api.OK {
		return e
	}
	switch there := sector(b); {
	case there == head:
		return api.OK
	case goodHead(there):
		return api.ErrStoreOther
	case there != sector{}:
		// A head that is torn over zeros is never good; over other bytes it could be that of some other torrent.
		if e := writeAndSync(d, sector{}); e != api.OK {
			return e
		}
	}
	if e := journal.Format(d, ringAt, ringCount(pieces)); e != api.OK {
		return e
	}
	return writeAndSync(d, head)
}

// writeAndSync makes the first sector last.
func writeAndSync(d *disk.Disk, b sector) api.Errno {
	if e := d.Write(headAt, b[:]); e != api.OK {
		return e
	}
	return d.Sync()
}
