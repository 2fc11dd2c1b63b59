package extend

import (
	"math"
	"slices"

	"torrent/api"
	"torrent/bencode"
)

// The keys of a wish's own fields.
const (
	keyNames = "m"
	keySize  = "metadata_size"
	keyQueue = "reqq"
	keyAgent = "v"
)

func isOwn(key string) bool {
	return key == keyNames || key == keySize || key == keyQueue || key == keyAgent
}

// wishDict is the dictionary of a wish, if that is good.
func wishDict(w api.Wish) (api.Value, bool) {
	if w.Size < 0 || w.Size > api.MaxText || w.Queue < 0 || slices.ContainsFunc(w.Names, strayID) || slices.ContainsFunc(w.More, strayKey) {
		return api.Value{}, false
	}
	d := dictionary(w.More,
		api.Pair{Key: keyNames, Val: namesDict(w.Names)},
		numberIf(w.Size != 0, keySize, w.Size),
		numberIf(w.Queue != 0, keyQueue, w.Queue),
		textIf(w.Agent != "", keyAgent, w.Agent))
	// Names or keys that don't rise are found here, too.
	return d, bencode.Valid(d) == api.OK
}

func isGood(w api.Wish) bool {
	_, ok := wishDict(w)
	return ok
}

func strayID(n api.Named) bool { return !isID(n.ID) }

func strayKey(p api.Pair) bool { return isOwn(p.Key) }

// namesDict is the dictionary of a wish's names, in their order.
func namesDict(names []api.Named) api.Value {
	pairs := make([]api.Pair, len(names))
	for i, n := range names {
		pairs[i] = numberIf(true, n.Name, n.ID)
	}
	return dictionary(pairs)
}

// readWish reads a wish, or gives up.
func readWish(b []byte) api.Wish {
	v, _, e := bencode.Decode(b)
	r := opened(v, e)
	w := api.Wish{Names: r.names(), Size: r.numberIfTold(keySize, api.MaxText), Queue: r.numberIfTold(keyQueue, math.MaxInt), Agent: r.agent()}
	w.More = r.left
	return w
}

// names takes off the names of a wish.
func (r *record) names() []api.Named {
	v, _ := r.take(keyNames)
	if v.Kind != api.KindDict {
		giveUp(api.ErrExtForm)
	}
	names := make([]api.Named, len(v.Dict))
	for i, p := range v.Dict {
		names[i] = api.Named{Name: p.Key, ID: within(p.Val, 0, maxID)}
	}
	return names
}

// agent takes off who says a wish; the empty string, if that isn't told.
func (r *record) agent() string {
	v, there := r.take(keyAgent)
	if there && (v.Kind != api.KindStr || v.Str == "") {
		giveUp(api.ErrExtForm)
	}
	return v.Str
}

func nameOf(n api.Named) string { return n.Name }

func keyOf(p api.Pair) string { return p.Key }

// laidOver puts two rising lists together, with the later one's element where both have a name.
func laidOver[T any](old, later []T, name func(T) string) []T {
	all := make([]T, 0, len(old)+len(later))
	for _, x := range later {
		for len(old) > 0 && name(old[0]) < name(x) {
			all = append(all, old[0])
			old = old[1:]
		}
		if len(old) > 0 && name(old[0]) == name(x) {
			old = old[1:]
		}
		all = append(all, x)
	}
	return append(all, old...)
}
