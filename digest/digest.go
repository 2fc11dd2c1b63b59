// Package digest: SHA-256, whole and in pieces, and its cut to a scale: chapter 1.
package digest

import (
	"bytes"
	"math/bits"

	"torrent/api"
)

const (
	blockSize = 64 // bytes that one step of the function takes
	countSize = 8  // bytes of the number at the end of the padding
	digits    = "0123456789abcdef"
)

// Good tells whether a scale may be.
func Good(sc api.Scale) api.Errno {
	if sc.Block < api.MinBlock || sc.Block > api.MaxBlock || bits.OnesCount(uint(sc.Block)) != 1 {
		return api.ErrScale
	}
	if sc.Width < 1 || sc.Width > len(api.Hash{}) {
		return api.ErrScale
	}
	return api.OK
}

// Pad answers what is laid behind a text of n bytes.
func Pad(n int) ([]byte, api.Errno) {
	if n < 0 || n > api.MaxTaken {
		return nil, api.ErrCount
	}
	open := (n + 1 + countSize) % blockSize
	zeros := (blockSize - open) % blockSize
	pad := make([]byte, 1+zeros+countSize)
	pad[0] = 128
	for i := range countSize {
		pad[len(pad)-1-i] = byte(uint64(n) * 8 >> (8 * i))
	}
	return pad, api.OK
}

// Expand answers the message schedule of a block.
func Expand(block [64]byte) [64]uint32 {
	var w [64]uint32
	for t := range 16 {
		w[t] = uint32(block[4*t])<<24 | uint32(block[4*t+1])<<16 | uint32(block[4*t+2])<<8 | uint32(block[4*t+3])
	}
	for t := 16; t < len(w); t++ {
		w[t] = small1(w[t-2]) + w[t-7] + small0(w[t-15]) + w[t-16]
	}
	return w
}

// Compress takes one block into the state.
func Compress(state [8]uint32, block [64]byte) [8]uint32 {
	w := Expand(block)
	a, b, c, d, e, f, g, h := state[0], state[1], state[2], state[3], state[4], state[5], state[6], state[7]
	for t := range 64 {
		one := h + big1(e) + ((e & f) ^ (^e & g)) + rounds[t] + w[t]
		two := big0(a) + ((a & b) ^ (a & c) ^ (b & c))
		h, g, f, e, d, c, b, a = g, f, e, d+one, c, b, a, one+two
	}
	return [8]uint32{state[0] + a, state[1] + b, state[2] + c, state[3] + d, state[4] + e, state[5] + f, state[6] + g, state[7] + h}
}

func right(x uint32, n int) uint32 { return bits.RotateLeft32(x, -n) }

func small0(x uint32) uint32 { return right(x, 7) ^ right(x, 18) ^ x>>3 }

func small1(x uint32) uint32 { return right(x, 17) ^ right(x, 19) ^ x>>10 }

func big0(x uint32) uint32 { return right(x, 2) ^ right(x, 13) ^ right(x, 22) }

func big1(x uint32) uint32 { return right(x, 6) ^ right(x, 11) ^ right(x, 25) }

// Sum is the whole digest of a text.
func Sum(b []byte) api.Hash {
	state, tail := fold(first, b)
	return finish(state, len(b), tail)
}

// fold takes the whole blocks of b into the state, and answers the bytes behind them too: a part of b itself.
func fold(state [8]uint32, b []byte) ([8]uint32, []byte) {
	var block [blockSize]byte
	for len(b) >= blockSize {
		copy(block[:], b)
		state = Compress(state, block)
		b = b[blockSize:]
	}
	return state, b
}

// finish answers the digest of a text of n bytes, given the state behind its whole blocks and the bytes behind them.
func finish(state [8]uint32, n int, tail []byte) api.Hash {
	// Tail and padding are laid into memory of our own: the room behind tail is the caller's.
	var end [2 * blockSize]byte
	pad, _ := Pad(n)
	size := copy(end[:], tail)
	size += copy(end[size:], pad)
	state, _ = fold(state, end[:size])
	var sum api.Hash
	for i, word := range state {
		for j := range 4 {
			sum[4*i+j] = byte(word >> (24 - 8*j))
		}
	}
	return sum
}

// Cut sets the bytes of a digest that the scale does not keep to zero.
func Cut(sc api.Scale, h api.Hash) (api.Hash, api.Errno) {
	if e := Good(sc); e != api.OK {
		return api.Hash{}, e
	}
	clear(h[sc.Width:])
	return h, api.OK
}

// Hash is the digest of a text at a scale.
func Hash(sc api.Scale, b []byte) (api.Hash, api.Errno) {
	if e := Good(sc); e != api.OK {
		return api.Hash{}, e
	}
	return Cut(sc, Sum(b))
}

// Clash tells whether two texts are unlike and have one digest at the scale.
func Clash(sc api.Scale, a, b []byte) bool {
	if Good(sc) != api.OK || bytes.Equal(a, b) {
		return false
	}
	of, _ := Hash(sc, a)
	other, _ := Hash(sc, b)
	return of == other
}

// Hex writes bytes as pairs of hexadecimal digits.
func Hex(b []byte) string {
	text := make([]byte, 0, 2*len(b))
	for _, x := range b {
		text = append(text, digits[x>>4], digits[x&15])
	}
	return string(text)
}

// Unhex reads them back.
func Unhex(s string) ([]byte, api.Errno) {
	if len(s)%2 != 0 {
		return nil, api.ErrHex
	}
	var b []byte
	for i := 0; i < len(s); i += 2 {
		high, low := digitValue(s[i]), digitValue(s[i+1])
		if high < 0 || low < 0 {
			return nil, api.ErrHex
		}
		b = append(b, byte(high<<4|low))
	}
	return b, api.OK
}

// digitValue answers what a digit stands for, below 0 if it is none.
func digitValue(c byte) int {
	switch {
	case '0' <= c && c <= '9':
		return int(c - '0')
	case 'a' <= c && c <= 'f':
		return int(c-'a') + 10
	}
	return -1
}
