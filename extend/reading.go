package extend

import (
	"slices"

	"torrent/api"
)

// refusal is what the panic of a reading carries: why it gave up.
type refusal api.Errno

// giveUp ends a reading, however deep it is.
func giveUp(why api.Errno) { panic(refusal(why)) }

// reading answers what read makes of a payload, or why it gave up.
func reading[T any](b []byte, read func([]byte) T) (answer T, e api.Errno) {
	if len(b) > maxPayload {
		return answer, api.ErrExtSize
	}
	defer func() {
		if why, ok := recover().(refusal); ok {
			e = api.Errno(why)
		}
	}()
	return read(b), api.OK
}

// record is a dictionary that is being read: what is left of its pairs when some were taken off.
type record struct {
	left []api.Pair
}

// opened is the record of what bencode has read.
func opened(v api.Value, e api.Errno) *record {
	if e != api.OK {
		giveUp(e)
	}
	if v.Kind != api.KindDict {
		giveUp(api.ErrExtForm)
	}
	return &record{left: v.Dict}
}

// take takes a pair off; if there is none of that key, the value has no kind.
func (r *record) take(key string) (api.Value, bool) {
	at, there := place(r.left, key)
	if !there {
		return api.Value{}, false
	}
	v := r.left[at].Val
	r.left = slices.Delete(r.left, at, at+1)
	return v, true
}

// number takes off a number that must be there.
func (r *record) number(key string, least, most int) int {
	v, _ := r.take(key)
	return within(v, least, most)
}

// numberIfTold takes off a number from 1 on; 0, if it isn't told.
func (r *record) numberIfTold(key string, most int) int {
	v, there := r.take(key)
	if !there {
		return 0
	}
	return within(v, 1, most)
}

// within is the number that a value is, if that lies within its bounds.
func within(v api.Value, least, most int) int {
	if v.Kind != api.KindInt || v.Int < least || v.Int > most {
		giveUp(api.ErrExtForm)
	}
	return v.Int
}
