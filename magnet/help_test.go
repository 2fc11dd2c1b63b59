package magnet_test

import (
	"fmt"
	"math"
	"math/rand"
	"slices"
	"strconv"
	"strings"

	"torrent/api"
)

const digitsOfInfo = "0001020304050607f8f9fafbfcfdfeff00112233445566778899aabbccddeeff"

// base is the text of a link that tells its infohash alone.
const base = "magnet:?xt=urn:btmh:1220" + digitsOfInfo

// info is the hash of digitsOfInfo.
var info = api.Hash{0, 1, 2, 3, 4, 5, 6, 7, 0xf8, 0xf9, 0xfa, 0xfb, 0xfc, 0xfd, 0xfe, 0xff, 0, 0x11, 0x22, 0x33, 0x44, 0x55, 0x66, 0x77, 0x88, 0x99, 0xaa, 0xbb, 0xcc, 0xdd, 0xee, 0xff}

func str(s string) api.Value { return api.Value{Kind: api.KindStr, Str: s} }

func pair(key, val string) api.Pair { return api.Pair{Key: key, Val: str(val)} }

func pairs(p ...api.Pair) []api.Pair { return p }

func texts(s ...string) []string { return s }

func runs(r ...api.Range) []api.Range { return r }

func run(from, length int) api.Range { return api.Range{From: from, Len: length} }

// show tells all fields of a link, nil lists and empty ones alike.
func show(l api.Link) string {
	s := fmt.Sprintf("%x %q %q %q", l.Info, l.Name, slices.Concat(texts("tr"), l.Trackers), slices.Concat(texts("pe"), l.Peers))
	for _, r := range l.Only {
		s += fmt.Sprintf(" {%d %d}", r.From, r.Len)
	}
	for _, p := range l.More {
		s += fmt.Sprintf(" %q=(%d %d %q %d %d)", p.Key, p.Val.Kind, p.Val.Int, p.Val.Str, len(p.Val.List), len(p.Val.Dict))
	}
	return s
}

var noLink = show(api.Link{})

// brief is the beginning of a long text, for messages.
func brief(s string) string {
	if len(s) > 300 {
		return s[:300] + " .. (" + strconv.Itoa(len(s)) + " bytes)"
	}
	return s
}

// randomText has few letters, so that texts meet; it may be empty.
func randomText(r *rand.Rand) string {
	known := texts("", "a", "b", "a b", "http://t/?a", "1.2.3.4:5", "100%", "%41", "\x00", "\xff\xfe", "ü", "a&b=c+d#e", "urn:btih:", "xt", "zz")
	if r.Intn(2) == 0 {
		return known[r.Intn(len(known))]
	}
	b := make([]byte, r.Intn(6))
	for i := range b {
		b[i] = "abAZ09%&=+ -,\xff/"[r.Intn(15)]
	}
	return string(b)
}

// randomTexts are some that are not empty and not the same.
func randomTexts(r *rand.Rand) []string {
	var list []string
	for range r.Intn(5) {
		if s := randomText(r); s != "" && !slices.Contains(list, s) {
			list = append(list, s)
		}
	}
	return list
}

func isFive(key string) bool { return slices.Contains(texts("xt", "dn", "so", "tr", "x.pe"), key) }

// randomGood is a link that may be.
func randomGood(r *rand.Rand) api.Link {
	l := api.Link{Name: randomText(r), Trackers: randomTexts(r), Peers: randomTexts(r)}
	for i := range l.Info {
		l.Info[i] = byte(r.Intn(256))
	}
	for from := r.Intn(4); r.Intn(3) > 0; {
		n := 1 + r.Intn(3)
		l.Only = append(l.Only, run(from, n))
		from += n + 1 + r.Intn(3)
	}
	if r.Intn(8) == 0 {
		l.Only = append(l.Only, []api.Range{run(4095, 1), run(4094, 2), run(1000, 3096)}[r.Intn(3)])
	}
	keys := append(randomTexts(r), "dm", "x.pd", "y")[:r.Intn(4)]
	slices.Sort(keys)
	for _, k := range slices.Compact(keys) {
		if !isFive(k) && k != "" {
			l.More = append(l.More, pair(k, randomText(r)))
		}
	}
	return l
}

func inserted[T any](r *rand.Rand, list []T, x T) []T {
	return slices.Insert(slices.Clone(list), r.Intn(len(list)+1), x)
}

func randomInt(r *rand.Rand) int {
	edges := []int{0, 1, 2, -1, 4094, 4095, 4096, 4097, math.MaxInt, math.MinInt, math.MaxInt - 4096, math.MinInt + 4096}
	if r.Intn(3) == 0 {
		return r.Intn(20) - 2
	}
	return edges[r.Intn(len(edges))]
}

// spoil does one thing to a link that may make it one that may not be.
func spoil(r *rand.Rand, l api.Link) api.Link {
	switch r.Intn(9) {
	case 0:
		l.Trackers = inserted(r, l.Trackers, randomText(r))
	case 1:
		l.Peers = inserted(r, l.Peers, randomText(r))
	case 2:
		l.Only = inserted(r, l.Only, run(randomInt(r), randomInt(r)))
	case 3:
		l.Only = inserted(r, l.Only, run(r.Intn(20), 1+r.Intn(3)))
	case 4:
		l.More = inserted(r, l.More, pair(randomText(r), ""))
	case 5:
		l.More = inserted(r, l.More, pair([]string{"xt", "dn", "so", "tr", "x.pe"}[r.Intn(5)], "x"))
	case 6:
		l.More = inserted(r, l.More, api.Pair{Key: "zzz", Val: api.Value{Kind: r.Intn(6) - 1, Int: r.Intn(2)}})
	case 7:
		l.More = inserted(r, l.More, api.Pair{Key: "zzz", Val: api.Value{Kind: api.KindStr, List: make([]api.Value, r.Intn(2)), Dict: make([]api.Pair, r.Intn(2))}})
	case 8:
		l.Name = strings.Repeat(randomText(r), r.Intn(2000))
	}
	return l
}
