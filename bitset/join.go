package bitset

import (
	"bytes"

	"torrent/api"
)

// And has the bits that both have.
func And(n int, a, b []byte) ([]byte, api.Errno) {
	return join(n, a, b, func(x, y byte) byte { return x & y })
}

// Or has the bits that one of the two has.
func Or(n int, a, b []byte) ([]byte, api.Errno) {
	return join(n, a, b, func(x, y byte) byte { return x | y })
}

// Minus has the bits of a that b lacks.
func Minus(n int, a, b []byte) ([]byte, api.Errno) {
	return join(n, a, b, func(x, y byte) byte { return x &^ y })
}

// Not has the bits that b lacks. It is taken from the full bitfield, so that no spare bit comes on.
func Not(n int, b []byte) ([]byte, api.Errno) {
	all, e := Full(n)
	if e != api.OK {
		return nil, e
	}
	return Minus(n, all, b)
}

// Covers tells whether a has all bits of b. It asks And and not Minus(n, b, a), since the faults of a come first.
func Covers(n int, a, b []byte) (bool, api.Errno) {
	both, e := And(n, a, b)
	if e != api.OK {
		return false, e
	}
	return bytes.Equal(both, b), api.OK
}

// join lays the two bitfields together, byte by byte. The function must make zero of two zeros: spare bits stay zero by that.
func join(n int, a, b []byte, of func(x, y byte) byte) ([]byte, api.Errno) {
	if e := Check(n, a); e != api.OK {
		return nil, e
	}
	if e := Check(n, b); e != api.OK {
		return nil, e
	}
	out := make([]byte, len(a))
	for i := range out {
		out[i] = of(a[i], b[i])
	}
	return out, api.OK
}
