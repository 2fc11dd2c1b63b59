package vault

import "torrent/digest"

// sum stands for bytes that it was taken of.
type sum [8]byte

func sumOf(b []byte) sum {
	h := digest.Sum(b)
	return sum(h[:len(sum{})])
}

// setNumber writes a number into the first four bytes.
func setNumber(b []byte, n int) {
	b[0], b[1], b[2], b[3] = byte(n>>24), byte(n>>16), byte(n>>8), byte(n)
}

// numberIn is the one in the first four bytes.
func numberIn(b []byte) int {
	return int(b[0])<<24 | int(b[1])<<16 | int(b[2])<<8 | int(b[3])
}
