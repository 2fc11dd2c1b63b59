package span

import "torrent/api"

// find is follow for what may be no text.
func find(b []byte, path []api.Step) (value, api.Errno) {
	if fault := check(b); fault != api.OK {
		return value{}, fault
	}
	return follow(b, path)
}

// follow answers the value to which the path leads in a text; with an error the last one that could be reached.
func follow(b []byte, path []api.Step) (value, api.Errno) {
	at := value{place: -1}
	read(b, func(v value) bool {
		if v.Up == at.place && leads(path, at.Kind, v) {
			at = v
		}
		if v.place != at.place || v.To == 0 {
			return true
		}
		at = v
		return false
	})
	switch {
	case at.Depth == len(path):
		return at, api.OK
	case nests(at):
		return at, api.ErrAbsent
	}
	return at, api.ErrStep
}

// leads tells whether the path goes on to v from what lies right around it, to which it has led.
func leads(path []api.Step, around int, v value) bool {
	if v.Depth == 0 {
		return true
	}
	if v.Depth > len(path) {
		return false
	}
	step := path[v.Depth-1]
	if around == api.KindList {
		return step.At == v.Nth
	}
	return step.Key == v.Key
}

func nests(v value) bool { return v.Kind == api.KindList || v.Kind == api.KindDict }

// parts shows each element or pair of a list or a dictionary once, with its places counted from where that one begins.
func parts(b []byte, around value, visit visitor) {
	read(b[around.From:around.To], func(v value) bool {
		return v.Depth != 1 || v.To == 0 || visit(v)
	})
}

// room answers where a new element or pair belongs in a list or a dictionary that has none at this step.
func room(b []byte, around value, step api.Step) (int, api.Errno) {
	place, n := around.To-1, 0
	parts(b, around, func(v value) bool {
		// An element has the empty Key, which is greater than none.
		if v.Key > step.Key {
			place = around.From + v.first
			return false
		}
		n++
		return true
	})
	if around.Kind == api.KindList && step.At != n {
		return 0, api.ErrAbsent
	}
	return place, api.OK
}
