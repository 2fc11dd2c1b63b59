package bencode

import "torrent/api"

// fault is the first fault that the walk meets in a value around which so many lists and dictionaries lie.
func fault(v api.Value, around int) api.Errno {
	if !pure(v) {
		return api.ErrValue
	}
	if v.Kind != api.KindList && v.Kind != api.KindDict {
		return api.OK
	}
	if around >= api.MaxDepth {
		return api.ErrTextDepth
	}
	for _, x := range v.List {
		if e := fault(x, around+1); e != api.OK {
			return e
		}
	}
	for i, p := range v.Dict {
		if i > 0 && p.Key <= v.Dict[i-1].Key {
			return api.ErrTextKey
		}
		if e := fault(p.Val, around+1); e != api.OK {
			return e
		}
	}
	return api.OK
}

// pure tells whether a value is of one of the four kinds and has no foreign field.
func pure(v api.Value) bool {
	return v.Kind >= api.KindInt && v.Kind <= api.KindDict &&
		(v.Kind == api.KindInt || v.Int == 0) &&
		(v.Kind == api.KindStr || v.Str == "") &&
		(v.Kind == api.KindList || len(v.List) == 0) &&
		(v.Kind == api.KindDict || len(v.Dict) == 0)
}
