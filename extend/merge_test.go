package extend_test

import (
	"fmt"
	"math/rand"
	"strings"
	"testing"

	"torrent/api"
	"torrent/extend"
)

// P21.6: wishes made at random, good ones and others, laid over one another.
func TestRandomMerges(t *testing.T) {
	r := rand.New(rand.NewSource(5))
	both, none := 0, 0
	for range 20000 {
		a, b := randomGood(r), randomGood(r)
		if r.Intn(4) == 0 {
			a = spoil(r, a)
		}
		if r.Intn(4) == 0 {
			b = spoil(r, b)
		}
		got, want := extend.Merge(a, b), plainMerge(a, b)
		if show(got) != show(want) {
			t.Fatalf("P21.6: Merge(%s, %s) = %s, want %s", show(a), show(b), show(got), show(want))
		}
		if !plainGood(got) {
			t.Fatalf("P21.6: Merge(%s, %s) = %s: not good", show(a), show(b), show(got))
		}
		if len(got.Names) < len(a.Names)+len(b.Names) && len(got.More) < len(a.More)+len(b.More) {
			both++
		}
		if !plainGood(a) || !plainGood(b) {
			none++
		}
	}
	if both < 1000 || none < 1000 {
		t.Errorf("too tame: %d, %d", both, none)
	}
}

// P21.6: each field by itself, told and not told.
func TestMergeFields(t *testing.T) {
	full := api.Wish{Names: names(named("b", 2)), Size: 7, Queue: 8, Agent: "x", More: pairs(pair("k", num(1)))}
	for _, c := range []struct {
		name             string
		old, later, want api.Wish
	}{
		{"a later size", full, api.Wish{Size: 1}, api.Wish{Names: full.Names, Size: 1, Queue: 8, Agent: "x", More: full.More}},
		{"a later queue", full, api.Wish{Queue: 1}, api.Wish{Names: full.Names, Size: 7, Queue: 1, Agent: "x", More: full.More}},
		{"a later agent", full, api.Wish{Agent: "y"}, api.Wish{Names: full.Names, Size: 7, Queue: 8, Agent: "y", More: full.More}},
		{"a later number", full, api.Wish{Names: names(named("b", 9))}, api.Wish{Names: names(named("b", 9)), Size: 7, Queue: 8, Agent: "x", More: full.More}},
		{"an extension switched off stays there", full, api.Wish{Names: names(named("b", 0))}, api.Wish{Names: names(named("b", 0)), Size: 7, Queue: 8, Agent: "x", More: full.More}},
		{"and is switched on again", api.Wish{Names: names(named("b", 0))}, api.Wish{Names: names(named("b", 4))}, api.Wish{Names: names(named("b", 4))}},
		{"names ahead and behind", full, api.Wish{Names: names(named("a", 1), named("c", 3))}, api.Wish{Names: names(named("a", 1), named("b", 2), named("c", 3)), Size: 7, Queue: 8, Agent: "x", More: full.More}},
		{"a later value of another kind", full, api.Wish{More: pairs(pair("k", list()))}, api.Wish{Names: full.Names, Size: 7, Queue: 8, Agent: "x", More: pairs(pair("k", list()))}},
		{"a later value of zero counts", full, api.Wish{More: pairs(pair("k", num(0)))}, api.Wish{Names: full.Names, Size: 7, Queue: 8, Agent: "x", More: pairs(pair("k", num(0)))}},
		{"the old one is not good", api.Wish{Queue: -1}, full, api.Wish{}},
		{"the later one is not good", full, api.Wish{Queue: -1}, api.Wish{}},
		{"neither is good", api.Wish{Size: -1}, api.Wish{Queue: -1}, api.Wish{}},
	} {
		if got := extend.Merge(c.old, c.later); show(got) != show(c.want) {
			t.Errorf("P21.6: %s: %s, want %s", c.name, show(got), show(c.want))
		}
	}
}

// P21.6: two wishes that can be sent may make one that can't; it is good all the same.
func TestMergeTooLong(t *testing.T) {
	a, b := api.Wish{}, api.Wish{}
	for i := range 1500 {
		a.Names = append(a.Names, named(fmt.Sprintf("a%011d", i), 1))
		b.Names = append(b.Names, named(fmt.Sprintf("b%011d", i), 2))
	}
	for _, w := range []api.Wish{a, b} {
		if _, e := extend.EncodeWish(w); e != api.OK {
			t.Fatal(e)
		}
	}
	w := extend.Merge(b, a)
	if len(w.Names) != 3000 || show(w) != show(plainMerge(b, a)) {
		t.Errorf("P21.6: of long ones: %d names", len(w.Names))
	}
	if text, e := extend.EncodeWish(w); e != api.ErrExtSize || len(text) != 0 {
		t.Errorf("P21.3: of what is too long: %d bytes, %d", len(text), e)
	}
	// Whether a wish is good has nothing to do with its length.
	long := api.Wish{Agent: strings.Repeat("x", 2*api.MaxText)}
	if got := extend.Merge(w, long); show(got) != show(plainMerge(w, long)) || len(got.Agent) != len(long.Agent) {
		t.Error("P21.6: a wish that has no text is good, too")
	}
}

// P21.10: the order in which three are put together doesn't matter, nothing is laid over nothing, and a number is the later one's.
func TestMergeOfParts(t *testing.T) {
	r := rand.New(rand.NewSource(6))
	for range 10000 {
		a, b, c := randomGood(r), randomGood(r), randomGood(r)
		left, right := extend.Merge(extend.Merge(a, b), c), extend.Merge(a, extend.Merge(b, c))
		if show(left) != show(right) {
			t.Fatalf("P21.10: of %s, %s and %s: %s or %s", show(a), show(b), show(c), show(left), show(right))
		}
		if x, y := extend.Merge(a, api.Wish{}), extend.Merge(api.Wish{}, a); show(x) != show(a) || show(y) != show(a) {
			t.Fatalf("P21.10: %s and nothing: %s or %s", show(a), show(x), show(y))
		}
		ab := extend.Merge(a, b)
		for _, name := range []string{"", "a", "m", "ut_metadata", randomName(r)} {
			n, ok := extend.Number(ab, name)
			want, there := extend.Number(b, name)
			if !there {
				want, there = extend.Number(a, name)
			}
			if n != want || ok != there {
				t.Fatalf("P21.10: Number of %q in %s over %s: %d, %v", name, show(b), show(a), n, ok)
			}
		}
	}
}
