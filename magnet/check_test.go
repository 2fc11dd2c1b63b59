package magnet_test

import (
	"fmt"
	"math"
	"math/rand"
	"slices"
	"strings"
	"testing"

	"torrent/api"
	"torrent/magnet"
)

// holdLink holds Check and Print of a link against the plain ones, and reads the text again.
func holdLink(t *testing.T, l api.Link) {
	t.Helper()
	want := plainCheck(l)
	text, e := magnet.Print(l)
	if f := magnet.Check(l); f != want || e != want {
		t.Errorf("P22.3, P22.4: Check and Print of %s: %d, %d, want %d", brief(show(l)), f, e, want)
	}
	if want != api.OK {
		if text != "" {
			t.Errorf("P22.4: Print of %s: a text with an error", brief(show(l)))
		}
		return
	}
	if text != plainText(l) {
		t.Errorf("P22.4: Print of %s = %q, want %q", show(l), text, plainText(l))
	}
	if back, at, f := magnet.Parse(text); show(back) != show(l) || at != 0 || f != api.OK {
		t.Errorf("P22.6: Parse(Print) of %s = %s, %d, %d", show(l), show(back), at, f)
	}
}

// P22.3, P22.4, P22.6: links that may be, with one fault, with two, with three.
func TestRandomLinks(t *testing.T) {
	r := rand.New(rand.NewSource(3))
	met := map[api.Errno]int{}
	for range 30000 {
		l := randomGood(r)
		for range r.Intn(4) {
			l = spoil(r, l)
		}
		met[plainCheck(l)]++
		holdLink(t, l)
	}
	for _, e := range []api.Errno{api.OK, api.ErrLinkForm, api.ErrLinkOrder, api.ErrLinkTwice, api.ErrLinkLong} {
		if met[e] < 100 {
			t.Errorf("only %d links of the answer %d", met[e], e)
		}
	}
}

// faults are links with one thing wrong each, by their error.
func faults() map[api.Errno][]api.Link {
	return map[api.Errno][]api.Link{
		api.ErrLinkForm: {
			{Trackers: texts("")}, {Trackers: texts("a", "")}, {Trackers: texts("", "a")}, {Peers: texts("")}, {Peers: texts("b", "")},
			{Only: runs(run(-1, 1))}, {Only: runs(run(-1, 5))}, {Only: runs(run(0, 0))}, {Only: runs(run(0, -1))}, {Only: runs(run(0, 4097))}, {Only: runs(run(4096, 1))}, {Only: runs(run(4095, 2))}, {Only: runs(run(1, 1), run(5, 0))},
			{Only: runs(run(math.MaxInt, 1))}, {Only: runs(run(1, math.MaxInt))}, {Only: runs(run(math.MaxInt, math.MaxInt))}, {Only: runs(run(math.MinInt, math.MinInt))}, {Only: runs(run(math.MinInt, 1))}, {Only: runs(run(1, math.MinInt))}, {Only: runs(run(math.MinInt, math.MaxInt))},
			{More: pairs(pair("", ""))}, {More: pairs(pair("a", ""), pair("", "a"))}, {More: []api.Pair{{Key: "a"}}}, {More: []api.Pair{{Key: "a", Val: api.Value{Kind: api.KindInt}}}}, {More: []api.Pair{{Key: "a", Val: api.Value{Kind: api.KindList}}}}, {More: []api.Pair{{Key: "a", Val: api.Value{Kind: api.KindDict}}}}, {More: []api.Pair{{Key: "a", Val: api.Value{Kind: -2}}}},
			{More: []api.Pair{{Key: "a", Val: api.Value{Kind: api.KindStr, Int: -1}}}}, {More: []api.Pair{{Key: "a", Val: api.Value{Kind: api.KindStr, List: make([]api.Value, 1)}}}}, {More: []api.Pair{{Key: "a", Val: api.Value{Kind: api.KindStr, Dict: make([]api.Pair, 1)}}}},
		},
		api.ErrLinkOrder: {
			{Only: runs(run(0, 1), run(0, 1))}, {Only: runs(run(0, 1), run(1, 1))}, {Only: runs(run(0, 2), run(2, 1))}, {Only: runs(run(5, 1), run(3, 1))}, {Only: runs(run(0, 4096), run(4095, 1))}, {Only: runs(run(1, 1), run(3, 2), run(5, 1))}, {Only: runs(run(5, 5), run(1, 1), run(20, 1))},
			{More: pairs(pair("b", ""), pair("a", ""))}, {More: pairs(pair("aa", ""), pair("a", ""))}, {More: pairs(pair("a", ""), pair("\xff", ""), pair("b", ""))}, {More: pairs(pair("xt", ""), pair("dn", ""))},
		},
		api.ErrLinkTwice: {
			{Trackers: texts("a", "a")}, {Trackers: texts("b", "a", "c", "b")}, {Peers: texts("a", "a")}, {Peers: texts("a", "b", "c", "c")},
			{More: pairs(pair("a", "1"), pair("a", "2"))}, {More: pairs(pair("a", ""), pair("b", ""), pair("b", ""))}, {More: pairs(pair("xt", ""))}, {More: pairs(pair("dn", ""))}, {More: pairs(pair("so", ""))}, {More: pairs(pair("tr", ""))}, {More: pairs(pair("x.pe", ""))}, {More: pairs(pair("a", ""), pair("tr", ""), pair("z", ""))},
		},
		api.ErrLinkLong: {{Name: strings.Repeat("x", 4096)}, {Trackers: texts(strings.Repeat("%", 1400))}, {Peers: texts("a", strings.Repeat("b", 1<<20))}, {More: pairs(pair(strings.Repeat("k", 5000), ""))}, {More: pairs(pair("k", strings.Repeat("v", 5000)))}},
	}
}

// joined lays the things of two links together, behind one another.
func joined(a, b api.Link) api.Link {
	return api.Link{Name: a.Name + b.Name, Trackers: slices.Concat(a.Trackers, b.Trackers), Peers: slices.Concat(a.Peers, b.Peers), Only: slices.Concat(a.Only, b.Only), More: slices.Concat(a.More, b.More)}
}

// P22.3: each fault alone; of two faults the first in the order of the chapter.
func TestFaultsInTheirOrder(t *testing.T) {
	all := faults()
	order := []api.Errno{api.ErrLinkForm, api.ErrLinkOrder, api.ErrLinkTwice, api.ErrLinkLong}
	for i, e := range order {
		for _, l := range all[e] {
			if f := magnet.Check(l); f != e {
				t.Errorf("P22.3: Check(%s) = %d, want %d", brief(show(l)), f, e)
			}
			holdLink(t, l)
			for _, later := range order[i+1:] {
				for _, m := range all[later] {
					for _, both := range []api.Link{joined(l, m), joined(m, l)} {
						// Laid together, two lists can be out of order as well.
						if f := magnet.Check(both); slices.Index(order, f) > i {
							t.Errorf("P22.3: Check(%s) = %d, behind %d", brief(show(both)), f, e)
						}
						holdLink(t, both)
					}
				}
			}
		}
	}
}

// P22.3, P22.4: links that may be, at the edges.
func TestLinksThatMayBe(t *testing.T) {
	for _, l := range []api.Link{
		{}, {Info: info}, {Name: "a"}, {Name: "\x00"}, {Trackers: texts("a"), Peers: texts("a")}, {Trackers: texts("b", "a")}, {Trackers: texts("a", "aa", "A")},
		{Only: runs(run(0, 1))}, {Only: runs(run(0, 4096))}, {Only: runs(run(4095, 1))}, {Only: runs(run(4094, 2))}, {Only: runs(run(0, 2), run(3, 1))}, {Only: runs(run(0, 4094), run(4095, 1))},
		{More: pairs(pair("a", ""))}, {More: pairs(pair("\x00", ""))}, {More: pairs(pair("a", ""), pair("a\x00", ""), pair("aa", ""))}, {More: pairs(pair("Xt", "1"), pair("xt ", "2"), pair("xt.1", "3"), pair("x\xff", "4"))},
		{More: []api.Pair{{Key: "a", Val: api.Value{Kind: api.KindStr, List: []api.Value{}, Dict: []api.Pair{}}}}}, {Trackers: []string{}, Peers: []string{}, Only: []api.Range{}, More: []api.Pair{}},
	} {
		if e := magnet.Check(l); e != api.OK {
			t.Errorf("P22.3: Check(%s) = %d", show(l), e)
		}
		holdLink(t, l)
	}
}

// P22.3, P22.4: texts of just as many bytes as may be, and of one more, by each of the fields.
func TestLinksAboutTheLimit(t *testing.T) {
	for spare := -3; spare <= 3; spare++ {
		for _, letter := range []string{"n", " "} {
			for _, link := range []func(s string) api.Link{
				func(s string) api.Link { return api.Link{Name: s} },
				func(s string) api.Link { return api.Link{Trackers: texts("a", s)} },
				func(s string) api.Link { return api.Link{Peers: texts(s, "a")} },
				func(s string) api.Link { return api.Link{More: pairs(pair(s, "x"), pair("z", ""))} },
				func(s string) api.Link { return api.Link{More: pairs(pair("a", s), pair("z", ""))} },
				func(s string) api.Link {
					return api.Link{Name: "%", Only: runs(run(3, 2)), Trackers: texts(s), Peers: texts(s)}
				},
			} {
				l := link(letter)
				each := len(plainText(link(letter+letter))) - len(plainText(l))
				n := (4096-len(plainText(l)))/each + 1 + spare
				holdLink(t, link(strings.Repeat(letter, n)))
			}
		}
	}
	var all []api.Range
	for from := 0; from < 4096; from += 2 {
		all = append(all, run(from, 1))
		if n := len(all); n < 10 || n > 790 && n < 860 || n > 2040 {
			holdLink(t, api.Link{Only: all})
		}
	}
}

// P0.1, P22.3: links with very many things.
func TestHugeLinks(t *testing.T) {
	const n = 1 << 19
	many, twins := make([]string, n), make([]string, n)
	places, keys := make([]api.Range, n), make([]api.Pair, n)
	for i := range n {
		many[i], twins[i] = fmt.Sprint(i), fmt.Sprint(i)
		places[i], keys[i] = run(2*i, 1), pair(fmt.Sprintf("k%07d", i), "")
	}
	twins[n-1] = "0"
	stray := slices.Clone(many)
	stray[n-1] = ""
	back := slices.Clone(keys)
	back[n-1].Key = "a"
	for i, c := range []struct {
		l api.Link
		e api.Errno
	}{
		{api.Link{Trackers: many}, api.ErrLinkLong}, {api.Link{Peers: many}, api.ErrLinkLong}, {api.Link{Trackers: twins}, api.ErrLinkTwice}, {api.Link{Peers: twins}, api.ErrLinkTwice}, {api.Link{Trackers: stray}, api.ErrLinkForm},
		{api.Link{Only: places}, api.ErrLinkForm}, {api.Link{Only: make([]api.Range, n)}, api.ErrLinkForm}, {api.Link{Only: slices.Repeat(runs(run(7, 1)), n)}, api.ErrLinkOrder}, {api.Link{More: keys}, api.ErrLinkLong}, {api.Link{More: back}, api.ErrLinkOrder}, {api.Link{Name: strings.Repeat("\x00", 1<<26)}, api.ErrLinkLong},
	} {
		if text, e := magnet.Print(c.l); text != "" || e != c.e || magnet.Check(c.l) != c.e {
			t.Errorf("P22.3: the case %d: %d, want %d", i, e, c.e)
		}
	}
	if !magnet.Wanted(api.Link{Only: places}, 2*n-2) || magnet.Wanted(api.Link{Only: places}, 2*n-1) {
		t.Error("P22.7: many runs")
	}
}

// P22.7: runs of whatever ints, asked at and about their ends.
func TestWanted(t *testing.T) {
	edges := []int{0, 1, 2, 3, 4, 5, 6, 7, -1, -2, -3, 4095, 4096, math.MaxInt, math.MaxInt - 1, math.MinInt, math.MinInt + 1, math.MaxInt/2 + 1, math.MinInt / 2}
	for _, file := range edges {
		holdWanted(t, api.Link{}, file)
		for _, from := range edges {
			for _, n := range edges {
				holdWanted(t, api.Link{Only: runs(run(from, n))}, file)
				holdWanted(t, api.Link{Only: runs(run(3, 2), run(from, n), run(0, 0))}, file)
			}
		}
	}
	r := rand.New(rand.NewSource(4))
	for range 20000 {
		l := api.Link{Name: "x"}
		for range r.Intn(4) {
			l.Only = append(l.Only, run(randomInt(r), randomInt(r)))
		}
		holdWanted(t, l, randomInt(r))
	}
}

func holdWanted(t *testing.T, l api.Link, file int) {
	t.Helper()
	if got := magnet.Wanted(l, file); got != plainWanted(l, file) {
		t.Errorf("P22.7: Wanted(%v, %d) = %v", l.Only, file, got)
	}
}
