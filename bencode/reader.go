package bencode

import (
	"strconv"

	"torrent/api"
)

// reader goes through a text to the right; at is how many bytes are behind it.
type reader struct {
	bytes []byte
	at    int
}

// stop is what a reader's panic carries: the first fault and its place.
type stop struct {
	place int
	errno api.Errno
}

// read reads the first value of a text: the value and how many bytes its text takes, or the place of the fault.
func read(b []byte) (v api.Value, n int, e api.Errno) {
	if len(b) > api.MaxText {
		return api.Value{}, 0, api.ErrTextLong
	}
	defer func() {
		if s, ok := recover().(stop); ok {
			v, n, e = api.Value{}, s.place, s.errno
		}
	}()
	r := reader{bytes: b}
	v = plain(r.value(0))
	return v, r.at, api.OK
}

// giveUp ends the reading, however deep it is.
func (r *reader) giveUp(place int, e api.Errno) { panic(stop{place: place, errno: e}) }

// next is the byte that comes next; a text that is at its end gives up there.
func (r *reader) next() byte {
	if r.at == len(r.bytes) {
		r.giveUp(r.at, api.ErrTextEnd)
	}
	return r.bytes[r.at]
}

// value reads a value around which so many lists and dictionaries lie.
func (r *reader) value(around int) node {
	c := r.next()
	nests := c == 'l' || c == 'd'
	if nests && around >= api.MaxDepth {
		r.giveUp(r.at, api.ErrTextDepth)
	}
	switch {
	case c == 'i':
		return r.number()
	case isDigit(c):
		return r.word()
	case c == 'l':
		return r.list(around)
	case c == 'd':
		return r.dict(around)
	}
	r.giveUp(r.at, api.ErrTextByte)
	return nil
}

func (r *reader) number() node {
	first := r.at
	r.at++
	sign := ""
	if r.next() == '-' {
		sign = "-"
		r.at++
	}
	digits := r.digits('e')
	n, err := strconv.ParseInt(sign+digits, 10, 64)
	if err != nil || padded(digits) || sign+digits == "-0" {
		r.giveUp(first, api.ErrTextNumber)
	}
	return number(n)
}

func (r *reader) word() word {
	first := r.at
	digits := r.digits(':')
	if padded(digits) {
		r.giveUp(first, api.ErrTextNumber)
	}
	rest := r.bytes[r.at:]
	n, err := strconv.Atoi(digits)
	if err != nil || n > len(rest) {
		r.giveUp(len(r.bytes), api.ErrTextEnd)
	}
	r.at += n
	return word(rest[:n])
}

// digits reads one digit or more and the byte that ends them.
func (r *reader) digits(end byte) string {
	first := r.at
	for isDigit(r.next()) {
		r.at++
	}
	if r.at == first || r.next() != end {
		r.giveUp(r.at, api.ErrTextByte)
	}
	r.at++
	return string(r.bytes[first : r.at-1])
}

func (r *reader) list(around int) list {
	r.at++
	l := list{}
	for r.next() != 'e' {
		l = append(l, r.value(around+1))
	}
	r.at++
	return l
}

func (r *reader) dict(around int) dict {
	r.at++
	d := dict{}
	for r.next() != 'e' {
		key := r.key(d)
		d = append(d, entry{key: key, val: r.value(around + 1)})
	}
	r.at++
	return d
}

// key reads the key that follows the entries of a dictionary so far.
func (r *reader) key(d dict) word {
	first := r.at
	key := r.word()
	if len(d) > 0 && key <= d[len(d)-1].key {
		r.giveUp(first, api.ErrTextKey)
	}
	return key
}

func isDigit(c byte) bool { return c >= '0' && c <= '9' }

// padded tells whether digits begin with a zero that has no place there.
func padded(digits string) bool { return len(digits) > 1 && digits[0] == '0' }
