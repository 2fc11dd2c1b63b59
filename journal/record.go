package journal

import (
	"torrent/api"
	"torrent/digest"
)

// sign is the first byte of each record. It is not 0: a sector whose wiping was torn holds no record.
const sign = 74

// Where the parts of a record begin in its sector.
const (
	numberAt = 1
	lowAt    = 5
	kindAt   = 9
	sizeAt   = 10
	dataAt   = 11
	sumAt    = 52
	againAt  = 60
)

const (
	risen   = 0 // the kind of the journal's own records: the low has risen
	maxKind = 255
)

// record is a record as it lies in its sector.
type record struct {
	api.Record
	low   int
	place int // the sector
}

// text is what the sector of the record has.
func (r record) text() [api.Sector]byte {
	var b [api.Sector]byte
	b[0] = sign
	lay(b[numberAt:], r.Seq)
	lay(b[lowAt:], r.low)
	b[kindAt], b[sizeAt] = byte(r.Kind), byte(len(r.Data))
	copy(b[dataAt:], r.Data)
	sum := digest.Sum(b[:sumAt])
	copy(b[sumAt:againAt], sum[:])
	lay(b[againAt:], r.Seq)
	return b
}

// mayBe tells whether a record can have these numbers.
func (r record) mayBe() bool {
	return r.low >= 1 && r.low <= r.Seq && (r.Kind != risen || len(r.Data) == 0)
}

// parse is the record that has that text, if there is one.
func parse(b [api.Sector]byte) (record, bool) {
	size := int(b[sizeAt])
	if size > api.MaxData {
		return record{}, false
	}
	var r record
	r.Seq, r.low, r.Kind = number(b[numberAt:]), number(b[lowAt:]), int(b[kindAt])
	r.Data = append(r.Data, b[dataAt:][:size]...)
	if !r.mayBe() || r.text() != b {
		return record{}, false
	}
	return r, true
}

// lay writes a number into the first four bytes.
func lay(b []byte, n int) {
	b[0], b[1], b[2], b[3] = byte(n>>24), byte(n>>16), byte(n>>8), byte(n)
}

// number is the one in the first four bytes.
func number(b []byte) int {
	return int(b[0])<<24 | int(b[1])<<16 | int(b[2])<<8 | int(b[3])
}
