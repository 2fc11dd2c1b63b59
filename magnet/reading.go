package magnet

import (
	"iter"
	"slices"
	"strings"

	"torrent/api"
	"torrent/digest"
)

// parts goes through what stands between the marks of a text, each with its place.
func parts(text string, mark byte) iter.Seq2[int, string] {
	return func(yield func(place int, part string) bool) {
		from := 0
		for {
			n := strings.IndexByte(text[from:], mark)
			if n < 0 {
				yield(from, text[from:])
				return
			}
			if !yield(from, text[from:from+n]) {
				return
			}
			from += n + 1
		}
	}
}

// reading is a link of which some parts have been read.
type reading struct {
	link  api.Link
	ahead int // the kind of the part ahead
}

// take reads the next part; or it says why it can't be, and at which place of the part.
func (r *reading) take(part string) (int, api.Errno) {
	left, right, ok := strings.Cut(part, "=")
	if !ok || left == "" {
		return 0, api.ErrLinkForm
	}
	key, fault := plain(left)
	if fault >= 0 {
		return fault, api.ErrLinkSign
	}
	value, fault := plain(right)
	if fault >= 0 {
		return len(left) + 1 + fault, api.ErrLinkSign
	}
	kind := kindOf(key)
	if e := r.stands(kind, key, value); e != api.OK {
		return 0, e
	}
	r.ahead = kind
	return 0, r.lay(kind, key, value)
}

// stands tells whether a parameter can stand where it does: behind those that were read.
func (r *reading) stands(kind int, key, value string) api.Errno {
	switch {
	case r.ahead == kindNone && kind != kindInfo:
		return api.ErrLinkHash
	case kind == kindInfo && strings.HasPrefix(value, oldAhead):
		return api.ErrLinkOld
	case kind == kindInfo && r.ahead != kindNone:
		return api.ErrLinkTwice
	case kind < r.ahead:
		return api.ErrLinkOrder
	case r.isAgain(kind, key, value):
		return api.ErrLinkTwice
	case kind == kindMore && key < r.lastKey():
		return api.ErrLinkOrder
	}
	return api.OK
}

// isAgain tells whether a parameter, of no earlier kind than the part ahead, stands there a second time.
func (r *reading) isAgain(kind int, key, value string) bool {
	switch kind {
	case kindTracker:
		return slices.Contains(r.link.Trackers, value)
	case kindPeer:
		return slices.Contains(r.link.Peers, value)
	case kindMore:
		return key == r.lastKey()
	}
	return kind == r.ahead
}

// lastKey is the last key that is none of the five; empty, as no key is, if there was none.
func (r *reading) lastKey() string {
	if len(r.link.More) == 0 {
		return ""
	}
	return r.link.More[len(r.link.More)-1].Key
}

// lay lays a parameter into the link, if its value may be one of its kind.
func (r *reading) lay(kind int, key, value string) api.Errno {
	l := &r.link
	switch kind {
	case kindInfo:
		return r.layInfo(value)
	case kindOnly:
		return r.layOnly(value)
	case kindMore:
		l.More = append(l.More, api.Pair{Key: key, Val: api.Value{Kind: api.KindStr, Str: value}})
		return api.OK
	}
	if value == "" {
		return api.ErrLinkForm
	}
	switch kind {
	case kindName:
		l.Name = value
	case kindTracker:
		l.Trackers = append(l.Trackers, value)
	case kindPeer:
		l.Peers = append(l.Peers, value)
	}
	return api.OK
}

func (r *reading) layInfo(value string) api.Errno {
	text, ok := strings.CutPrefix(value, infoAhead)
	b, e := digest.Unhex(text)
	if !ok || e != api.OK || len(b) != len(r.link.Info) {
		return api.ErrLinkHash
	}
	r.link.Info = api.Hash(b)
	return api.OK
}

func (r *reading) layOnly(value string) api.Errno {
	runs, ok := readRuns(value)
	if !ok {
		return api.ErrLinkForm
	}
	if !areApart(runs) {
		return api.ErrLinkOrder
	}
	r.link.Only = runs
	return api.OK
}
