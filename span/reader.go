package span

import (
	"torrent/api"
	"torrent/bencode"
)

// value is one value of a text as the reader comes upon it. To is 0 as long as the end of a list or dictionary is not known.
type value struct {
	api.Span
	place int // among all values of the text, in their order
	first int // where its element or pair begins: at the Key, if it has one
}

// visitor is what a call does with each value: with a list or a dictionary where it begins and again where it ends. It answers false when the call has what it wants.
type visitor func(v value) bool

// level is a list or a dictionary that has not ended yet.
type level struct {
	value
	parts int    // how many of its elements or pairs have begun
	key   string // of the last one that has begun
	begun int    // where that one began
}

// reader goes over a text to the right, and keeps only what lies around the place where it is.
type reader struct {
	text   []byte
	at     int
	values int // how many have begun
	open   []level
}

// read shows the values of a text until visit has what it wants: the first fault that is met till then, and its place.
func read(b []byte, visit visitor) (int, api.Errno) {
	if len(b) > api.MaxText {
		return 0, api.ErrTextLong
	}
	r := reader{text: b}
	fault := api.OK
values:
	for {
		var v value
		if v, fault = r.value(); fault != api.OK || !visit(v) {
			break values
		}
		for len(r.open) > 0 {
			if r.next() == 'e' {
				if !visit(r.end()) {
					break values
				}
				continue
			}
			if fault = r.part(); fault != api.OK {
				break values
			}
			continue values
		}
		if r.at < len(b) {
			fault = api.ErrTextTrail
		}
		break values
	}
	if fault == api.OK {
		return 0, api.OK
	}
	return r.at, fault
}

// check answers the fault of what is no text.
func check(b []byte) api.Errno {
	_, fault := read(b, func(value) bool { return true })
	return fault
}

// next is the byte that comes next. At the end it is 0, which begins and ends nothing.
func (r *reader) next() byte {
	if r.at == len(r.text) {
		return 0
	}
	return r.text[r.at]
}

// leaf reads a number or a string by the rules of layer 2; behind it, or at its fault, the reader then is.
func (r *reader) leaf() (api.Value, api.Errno) {
	v, n, fault := bencode.Prefix(r.text[r.at:])
	r.at += n
	return v, fault
}

// value reads a number or a string whole, and of a list or a dictionary its beginning.
func (r *reader) value() (value, api.Errno) {
	v := r.due()
	switch r.next() {
	case 'l':
		v.Kind = api.KindList
	case 'd':
		v.Kind = api.KindDict
	default:
		leaf, fault := r.leaf()
		v.Kind, v.To = leaf.Kind, r.at
		return v, fault
	}
	if v.Depth >= api.MaxDepth {
		return v, api.ErrTextDepth
	}
	r.at++
	r.open = append(r.open, level{value: v})
	return v, api.OK
}

// due is what is known of the value that must begin here.
func (r *reader) due() value {
	v := value{place: r.values}
	r.values++
	v.From, v.Depth, v.Up = r.at, len(r.open), -1
	if v.Depth > 0 {
		around := &r.open[v.Depth-1]
		v.Up, v.Nth, v.Key, v.first = around.place, around.parts-1, around.key, around.begun
	}
	return v
}

// part begins an element, or a pair by its Key, of the innermost list or dictionary.
func (r *reader) part() api.Errno {
	around := &r.open[len(r.open)-1]
	around.begun = r.at
	around.parts++
	if around.Kind == api.KindList {
		return api.OK
	}
	switch r.next() {
	case 'i', 'l', 'd':
		return api.ErrTextByte
	}
	key, fault := r.leaf()
	if fault != api.OK {
		return fault
	}
	if around.parts > 1 && key.Str <= around.key {
		r.at = around.begun
		return api.ErrTextKey
	}
	around.key = key.Str
	return api.OK
}

// end closes the innermost list or dictionary.
func (r *reader) end() value {
	r.at++
	last := len(r.open) - 1
	v := r.open[last].value
	v.To = r.at
	r.open = r.open[:last]
	return v
}
