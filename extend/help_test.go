package extend_test

import (
	"fmt"
	"math"
	"math/rand"
	"slices"
	"strconv"
	"strings"

	"torrent/api"
)

const maxPayload = api.MaxFrame - 2

func named(name string, id int) api.Named { return api.Named{Name: name, ID: id} }

func names(n ...api.Named) []api.Named { return n }

func num(n int) api.Value { return api.Value{Kind: api.KindInt, Int: n} }

func str(s string) api.Value { return api.Value{Kind: api.KindStr, Str: s} }

func list(l ...api.Value) api.Value { return api.Value{Kind: api.KindList, List: l} }

func dict(d ...api.Pair) api.Value { return api.Value{Kind: api.KindDict, Dict: d} }

func pair(k string, v api.Value) api.Pair { return api.Pair{Key: k, Val: v} }

func pairs(p ...api.Pair) []api.Pair { return p }

// nest lays a value into so many lists.
func nest(v api.Value, n int) api.Value {
	for range n {
		v = list(v)
	}
	return v
}

// showValue tells all fields of a value, nil lists and empty ones alike.
func showValue(v api.Value) string {
	s := "(" + strconv.Itoa(v.Kind) + " " + strconv.Itoa(v.Int) + " " + strconv.Quote(v.Str)
	for _, x := range v.List {
		s += "[" + showValue(x) + "]"
	}
	return s + showPairs(v.Dict) + ")"
}

func showPairs(pairs []api.Pair) string {
	s := ""
	for _, p := range pairs {
		s += "{" + strconv.Quote(p.Key) + "=" + showValue(p.Val) + "}"
	}
	return s
}

// show tells all fields of a wish, nil lists and empty ones alike.
func show(w api.Wish) string {
	s := ""
	for _, n := range w.Names {
		s += strconv.Quote(n.Name) + "=" + strconv.Itoa(n.ID) + " "
	}
	return s + fmt.Sprintf("size %d queue %d agent %q more ", w.Size, w.Queue, w.Agent) + showPairs(w.More)
}

func showSheet(s api.Sheet) string {
	return fmt.Sprintf("%d %d %d %q", s.Kind, s.Part, s.Total, s.Data)
}

// brief is the beginning of a long text, for messages.
func brief(s string) string {
	if len(s) > 300 {
		return s[:300] + " .. (" + strconv.Itoa(len(s)) + " bytes)"
	}
	return s
}

var (
	noWish  = show(api.Wish{})
	noSheet = showSheet(api.Sheet{})
)

// randomName has few letters, so that names meet, and stand about the own keys of a wish.
func randomName(r *rand.Rand) string {
	known := []string{"", "a", "l", "m", "ma", "mz", "metadata_size", "metadata_siz", "reqq", "reqqq", "r", "u", "v", "va", "ut_metadata", "z", "\x00", "\xff", "msg_type"}
	if r.Intn(3) > 0 {
		return known[r.Intn(len(known))]
	}
	b := make([]byte, r.Intn(4))
	for i := range b {
		b[i] = "amv:e\xff"[r.Intn(6)]
	}
	return string(b)
}

func randomNumber(r *rand.Rand) int {
	edges := []int{0, 1, 2, 3, -1, 255, 256, api.MaxText, api.MaxText + 1, math.MaxInt, math.MinInt}
	if r.Intn(3) > 0 {
		return edges[r.Intn(len(edges))]
	}
	return r.Intn(300) - 5
}

// randomValue is a valid value with at most so many lists and dictionaries in one another.
func randomValue(r *rand.Rand, deep int) api.Value {
	kind := 1 + r.Intn(4)
	if deep == 0 {
		kind = 1 + r.Intn(2)
	}
	switch kind {
	case api.KindInt:
		return num(randomNumber(r))
	case api.KindStr:
		return str(randomName(r))
	case api.KindList:
		v := list()
		for range r.Intn(3) {
			v.List = append(v.List, randomValue(r, deep-1))
		}
		return v
	}
	v := dict()
	for _, k := range randomKeys(r, 4) {
		v.Dict = append(v.Dict, pair(k, randomValue(r, deep-1)))
	}
	return v
}

// randomKeys are fewer than so many names that rise.
func randomKeys(r *rand.Rand, below int) []string {
	keys := []string{}
	for range r.Intn(below) {
		keys = append(keys, randomName(r))
	}
	slices.Sort(keys)
	return slices.Compact(keys)
}

// randomGood is a good wish.
func randomGood(r *rand.Rand) api.Wish {
	w := api.Wish{}
	for _, k := range randomKeys(r, 6) {
		w.Names = append(w.Names, named(k, []int{0, 1, 2, 255, r.Intn(256)}[r.Intn(5)]))
	}
	for _, k := range randomKeys(r, 6) {
		if !slices.Contains([]string{"m", "metadata_size", "reqq", "v"}, k) {
			w.More = append(w.More, pair(k, randomValue(r, 3)))
		}
	}
	if r.Intn(2) == 0 {
		w.Size = []int{1, 2, api.MaxText, 1 + r.Intn(api.MaxText)}[r.Intn(4)]
	}
	if r.Intn(2) == 0 {
		w.Queue = []int{1, 250, math.MaxInt, 1 + r.Intn(1000)}[r.Intn(4)]
	}
	if r.Intn(2) == 0 {
		w.Agent = strings.Repeat("ab", r.Intn(3)) + "\xff"
	}
	return w
}

// spoil does one thing to a wish that may make it one that is not good.
func spoil(r *rand.Rand, w api.Wish) api.Wish {
	switch r.Intn(7) {
	case 0:
		w.Size = randomNumber(r)
	case 1:
		w.Queue = randomNumber(r)
	case 2:
		w.Names = slices.Insert(slices.Clone(w.Names), r.Intn(len(w.Names)+1), named(randomName(r), r.Intn(3)))
	case 3:
		w.More = slices.Insert(slices.Clone(w.More), r.Intn(len(w.More)+1), pair(randomName(r), num(1)))
	case 4:
		w.Names = slices.Insert(slices.Clone(w.Names), r.Intn(len(w.Names)+1), named(randomName(r), randomNumber(r)))
	case 5:
		w.More = append(slices.Clone(w.More), pair("\xff\xff", nest(num(1), 28+r.Intn(5))))
	case 6:
		w.More = append(slices.Clone(w.More), pair("\xff\xff", api.Value{Kind: r.Intn(7) - 1, Int: r.Intn(2)}))
	}
	return w
}

// randomSheet is a sheet that is good more often than not.
func randomSheet(r *rand.Rand) api.Sheet {
	s := api.Sheet{Kind: r.Intn(3), Part: []int{0, 1, 7, math.MaxInt}[r.Intn(4)]}
	if s.Kind == api.SheetData {
		s.Total = []int{1, 5, api.MaxText}[r.Intn(3)]
		s.Data = []byte("e" + randomName(r))[r.Intn(2):]
	}
	if r.Intn(4) == 0 {
		switch r.Intn(4) {
		case 0:
			s.Kind = r.Intn(6) - 2
		case 1:
			s.Part = randomNumber(r)
		case 2:
			s.Total = randomNumber(r)
		case 3:
			s.Data = append(s.Data, 'x')
		}
	}
	return s
}
