package magnet

import "strings"

// digits are those behind a percent sign.
const digits = "0123456789ABCDEF"

// signSize is how many bytes stand for one that is not bare: the percent sign and two digits.
const signSize = 3

// bare tells of each byte below 128 whether it stands for itself; no other does.
var bare = [128]bool{
	'A': true, 'B': true, 'C': true, 'D': true, 'E': true, 'F': true, 'G': true, 'H': true, 'I': true,
	'J': true, 'K': true, 'L': true, 'M': true, 'N': true, 'O': true, 'P': true, 'Q': true, 'R': true,
	'S': true, 'T': true, 'U': true, 'V': true, 'W': true, 'X': true, 'Y': true, 'Z': true,
	'a': true, 'b': true, 'c': true, 'd': true, 'e': true, 'f': true, 'g': true, 'h': true, 'i': true,
	'j': true, 'k': true, 'l': true, 'm': true, 'n': true, 'o': true, 'p': true, 'q': true, 'r': true,
	's': true, 't': true, 'u': true, 'v': true, 'w': true, 'x': true, 'y': true, 'z': true,
	'0': true, '1': true, '2': true, '3': true, '4': true, '5': true, '6': true, '7': true, '8': true, '9': true,
	'-': true, '.': true, '_': true, '~': true, '!': true, '$': true, '\'': true, '(': true,
	')': true, '*': true, ',': true, ';': true, ':': true, '@': true, '/': true, '?': true,
}

func isBare(c byte) bool { return int(c) < len(bare) && bare[c] }

// plain is the text that s is when it is written with percent signs, and -1;
// or nothing, and the place of the first byte that can't stand there.
func plain(s string) (string, int) {
	var text strings.Builder
	for at := 0; at < len(s); {
		c, size := firstByte(s[at:])
		if size == 0 {
			return "", at
		}
		text.WriteByte(c)
		at += size
	}
	return text.String(), -1
}

// firstByte is the byte that a text begins with, and how many bytes stand for it; none, if that is not how it is written.
func firstByte(s string) (byte, int) {
	if isBare(s[0]) {
		return s[0], 1
	}
	if s[0] != '%' || len(s) < signSize {
		return 0, 0
	}
	high, low := strings.IndexByte(digits, s[1]), strings.IndexByte(digits, s[2])
	if high < 0 || low < 0 {
		return 0, 0
	}
	c := byte(high<<4 | low)
	// A bare byte has itself as its one way to be written.
	if isBare(c) {
		return 0, 0
	}
	return c, signSize
}
