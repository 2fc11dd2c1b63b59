package bencode_test

import (
	"fmt"
	"math"
	"math/rand"
	"sort"
	"strconv"
	"strings"

	"torrent/api"
)

func num(n int) api.Value { return api.Value{Kind: api.KindInt, Int: n} }

func str(s string) api.Value { return api.Value{Kind: api.KindStr, Str: s} }

func list(l ...api.Value) api.Value { return api.Value{Kind: api.KindList, List: l} }

func dict(d ...api.Pair) api.Value { return api.Value{Kind: api.KindDict, Dict: d} }

func pair(k string, v api.Value) api.Pair { return api.Pair{Key: k, Val: v} }

// nest lays a value into so many lists.
func nest(v api.Value, n int) api.Value {
	for range n {
		v = list(v)
	}
	return v
}

// nestDict lays a value into so many dictionaries.
func nestDict(v api.Value, n int) api.Value {
	for range n {
		v = dict(pair("k", v))
	}
	return v
}

// show tells all fields of a value, nil lists and empty ones alike.
func show(v api.Value) string { return string(appendShown(nil, v)) }

func appendShown(out []byte, v api.Value) []byte {
	out = strconv.AppendInt(append(out, '('), int64(v.Kind), 10)
	out = strconv.AppendInt(append(out, ' '), int64(v.Int), 10)
	out = strconv.AppendQuote(append(out, ' '), v.Str)
	for _, x := range v.List {
		out = appendShown(append(out, '['), x)
	}
	for _, p := range v.Dict {
		out = appendShown(strconv.AppendQuote(append(out, '{'), p.Key), p.Val)
	}
	return append(out, ')')
}

// short is the beginning of what show tells, for messages.
func short(v api.Value) string {
	s := show(v)
	return s[:min(len(s), 200)]
}

var noValue = show(api.Value{})

// textOf is the text of a valid value.
func textOf(v api.Value) string {
	var s strings.Builder
	printText(&s, v)
	return s.String()
}

func printText(s *strings.Builder, v api.Value) {
	switch v.Kind {
	case api.KindInt:
		fmt.Fprintf(s, "i%de", v.Int)
	case api.KindStr:
		fmt.Fprintf(s, "%d:%s", len(v.Str), v.Str)
	case api.KindList:
		fmt.Fprint(s, "l")
		for _, x := range v.List {
			printText(s, x)
		}
		fmt.Fprint(s, "e")
	case api.KindDict:
		fmt.Fprint(s, "d")
		for _, p := range v.Dict {
			printText(s, str(p.Key))
			printText(s, p.Val)
		}
		fmt.Fprint(s, "e")
	}
}

func randomText(r *rand.Rand) string {
	b := make([]byte, r.Intn(4))
	for i := range b {
		b[i] = "abe:01\x00\xff"[r.Intn(8)]
	}
	return string(b)
}

// randomValue is a valid value with at most so many lists and dictionaries in one another.
func randomValue(r *rand.Rand, deep int) api.Value {
	kind := 1 + r.Intn(4)
	if deep == 0 {
		kind = 1 + r.Intn(2)
	}
	switch kind {
	case api.KindInt:
		return num([]int{0, 1, -1, 10, -905, math.MaxInt, math.MinInt, r.Int()}[r.Intn(8)])
	case api.KindStr:
		return str(randomText(r))
	case api.KindList:
		v := list()
		for range r.Intn(4) {
			v.List = append(v.List, randomValue(r, deep-1))
		}
		return v
	}
	byKey := map[string]api.Value{}
	for range r.Intn(4) {
		byKey[randomText(r)] = randomValue(r, deep-1)
	}
	return dictOf(byKey)
}

// dictOf is the dictionary of a map.
func dictOf(byKey map[string]api.Value) api.Value {
	keys := []string{}
	for k := range byKey {
		keys = append(keys, k)
	}
	sort.Strings(keys)
	v := dict()
	for _, k := range keys {
		v.Dict = append(v.Dict, pair(k, byKey[k]))
	}
	return v
}

// spoil does one thing or none to a value, somewhere in it, that may make it not valid.
func spoil(r *rand.Rand, v api.Value) api.Value {
	if len(v.List) > 0 && r.Intn(2) == 0 {
		i := r.Intn(len(v.List))
		l := append([]api.Value{}, v.List...)
		l[i] = spoil(r, l[i])
		v.List = l
		return v
	}
	if len(v.Dict) > 0 && r.Intn(2) == 0 {
		i := r.Intn(len(v.Dict))
		d := append([]api.Pair{}, v.Dict...)
		d[i].Val = spoil(r, d[i].Val)
		v.Dict = d
		return v
	}
	switch r.Intn(8) {
	case 0:
		v.Kind = r.Intn(7) - 1
	case 1:
		v.Int = r.Intn(3) - 1
	case 2:
		v.Str += "x"
	case 3:
		v.List = append(v.List[:len(v.List):len(v.List)], num(1))
	case 4:
		v.Dict = append(v.Dict[:len(v.Dict):len(v.Dict)], pair(randomText(r), num(1)))
	case 5:
		v = nest(v, 27+r.Intn(8))
	case 6:
		v = nestDict(v, 27+r.Intn(8))
	}
	return v
}
