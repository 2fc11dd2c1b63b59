package proof_test

import (
	"bytes"
	"fmt"
	"math"
	"math/rand"
	"slices"
	"testing"

	"torrent/api"
	"torrent/proof"
)

// spot is a node's level and its place there.
type spot struct{ level, place int }

// led are the nodes of an answer, by where they stand: those that it has and those that are reckoned from them.
func led(sc api.Scale, q api.Query, list []api.Hash) map[spot]api.Hash {
	nodes := map[spot]api.Hash{}
	for i := range q.Length {
		nodes[spot{q.Base, q.Index + i}] = list[i]
	}
	level := q.Base
	for n := q.Length; n > 1; n /= 2 {
		for i := 0; i < n; i += 2 {
			p := q.Index>>(level-q.Base) + i
			nodes[spot{level + 1, p / 2}] = two(sc, nodes[spot{level, p}], nodes[spot{level, p + 1}])
		}
		level++
	}
	for _, uncle := range list[q.Length:] {
		p := q.Index >> (level - q.Base)
		side := p + 1 - 2*(p%2)
		nodes[spot{level, side}] = uncle
		left := min(p, side)
		nodes[spot{level + 1, left / 2}] = two(sc, nodes[spot{level, left}], nodes[spot{level, left + 1}])
		level++
	}
	return nodes
}

// betrayal is Betray by the words of the chapter, of an answer that leads to the root and is not the tree's. With the texts comes where they were found.
func betrayal(sc api.Scale, all [][]api.Hash, low int, q api.Query, list []api.Hash) (u, v []byte, at spot) {
	given := led(sc, q, list)
	for l := 1; l < len(all); l++ {
		for p := range all[l] {
			left, ok := given[spot{low + l - 1, 2 * p}]
			right, ok2 := given[spot{low + l - 1, 2*p + 1}]
			if !ok || !ok2 || given[spot{low + l, p}] != all[l][p] {
				continue
			}
			if x, y := all[l-1][2*p], all[l-1][2*p+1]; left != x || right != y {
				return slices.Concat(x[:], y[:]), slices.Concat(left[:], right[:]), spot{low + l, p}
			}
		}
	}
	panic("a false answer that leads to the root, and no collision")
}

// checkBetray holds Betray of a false answer against the words of the chapter, and answers where the collision was.
func checkBetray(t *testing.T, sc api.Scale, low int, nodes []api.Hash, all [][]api.Hash, q api.Query, list []api.Hash) spot {
	t.Helper()
	u, v, at := betrayal(sc, all, low, q, list)
	x, y, e := proof.Betray(sc, low, nodes, q, list)
	if e != api.OK || !bytes.Equal(x, u) || !bytes.Equal(y, v) {
		t.Errorf("Betray at %v of %d nodes at %d, %v: %x, %x, %d, want %x, %x", sc, len(nodes), low, q, x, y, e, u, v)
	}
	if len(x) != 64 || len(y) != 64 || bytes.Equal(x, y) || sum(sc, x) != sum(sc, y) {
		t.Errorf("Betray of %d nodes at %d, %v: %x, %x are no collision", len(nodes), low, q, x, y)
	}
	return at
}

// forge changes some of an answer's hashes until it leads to the root again. Some of its pairs it changes to others of the same node.
func forge(r *rand.Rand, q api.Query, right []api.Hash) []api.Hash {
	list := slices.Clone(right)
	for i := 0; i < q.Length; i += 2 {
		if r.Intn(3) > 0 {
			continue
		}
		for node := two(narrow, list[i], list[i+1]); ; {
			list[i+r.Intn(2)] = hashes(r, 1)[0]
			if two(narrow, list[i], list[i+1]) == node {
				break
			}
		}
	}
	if r.Intn(2) == 0 {
		return list
	}
	for some := 1 + r.Intn(len(list)); ; {
		for range some {
			list[r.Intn(len(list))] = hashes(r, 1)[0]
		}
		if reached(narrow, q, list) == q.Root {
			return list
		}
	}
}

// P7.9: answers that are false in any of their hashes and lead to the root, for queries of every shape.
func TestBetray(t *testing.T) {
	r := rand.New(rand.NewSource(40))
	found := map[int]int{}
	for n := 2; n <= 16; n++ {
		for _, low := range []int{0, 3, 48 - rise(n)} {
			nodes := hashes(r, n)
			all := grown(narrow, low, nodes)
			for _, q := range queries(n, low) {
				if !whole(low+rise(n), q) {
					continue
				}
				q.Root = all[rise(n)][0]
				right := answered(all, low, q)
				u, v, e := proof.Betray(narrow, low, nodes, q, right)
				noTexts(t, "Betray of the right answer", u, v, e, api.ErrSame)
				for range 3 {
					list := forge(r, q, right)
					if slices.Equal(list, right) {
						continue
					}
					at := checkBetray(t, narrow, low, nodes, all, q, list)
					found[at.level-low]++
				}
			}
		}
	}
	for level := 1; level <= 4; level++ {
		if found[level] < 20 {
			t.Errorf("only %d collisions %d levels above the nodes", found[level], level)
		}
	}
}

// P7.9: of several collisions the lowest, and there the first; the tree's text comes first.
func TestBetrayOrder(t *testing.T) {
	r := rand.New(rand.NewSource(41))
	nodes := hashes(r, 8)
	all := grown(narrow, 0, nodes)
	q := ask(0, 4, 4, 2)
	q.Root = all[3][0]
	right := answered(all, 0, q)
	list := slices.Clone(right)
	other := func(l, r2 int) {
		for list[l] = hashes(r, 1)[0]; two(narrow, list[l], list[r2]) != two(narrow, right[l], right[r2]); {
			list[l] = hashes(r, 1)[0]
		}
	}
	text := func(l, r api.Hash) []byte { return slices.Concat(l[:], r[:]) }
	is := func(name string, u, v []byte) {
		t.Helper()
		x, y, e := proof.Betray(narrow, 0, nodes, q, list)
		if e != api.OK || !bytes.Equal(x, u) || !bytes.Equal(y, v) {
			t.Errorf("%s: %x, %x, %d", name, x, y, e)
		}
	}
	// The uncle is the left one at the root; its node on the right stays.
	side := two(narrow, two(narrow, nodes[4], nodes[5]), two(narrow, nodes[6], nodes[7]))
	for list[4] = hashes(r, 1)[0]; two(narrow, list[4], side) != q.Root; {
		list[4] = hashes(r, 1)[0]
	}
	is("an uncle alone", text(all[2][0], side), text(list[4], side))
	other(2, 3)
	is("an uncle and the second pair", text(nodes[6], nodes[7]), text(list[2], list[3]))
	other(0, 1)
	is("an uncle and both pairs", text(nodes[4], nodes[5]), text(list[0], list[1]))
}

// P7.9: two hashes that have changed places are not the same two.
func TestBetraySwapped(t *testing.T) {
	r := rand.New(rand.NewSource(42))
	for {
		nodes := hashes(r, 3)
		if two(narrow, nodes[0], nodes[1]) != two(narrow, nodes[1], nodes[0]) {
			continue
		}
		all := grown(narrow, 0, nodes)
		q := ask(0, 0, 2, 1)
		q.Root = all[2][0]
		list := answered(all, 0, q)
		list[0], list[1] = list[1], list[0]
		checkBetray(t, narrow, 0, nodes, all, q, list)
		return
	}
}

// P7.9: hashes that are unlike only in bytes that a narrow digest has not are unlike.
func TestBetrayLastByte(t *testing.T) {
	r := rand.New(rand.NewSource(43))
	nodes := hashes(r, 5)
	all := grown(narrow, 0, nodes)
	q := ask(0, 2, 2, 2)
	q.Root = all[3][0]
	found := 0
	for i := range 4 {
		list := answered(all, 0, q)
		for x := range 65536 {
			list[i][30], list[i][31] = byte(x), byte(x>>8)
			if reached(narrow, q, list) == q.Root && !slices.Equal(list, answered(all, 0, q)) {
				checkBetray(t, narrow, 0, nodes, all, q, list)
				found++
				break
			}
		}
	}
	if found < 4 {
		t.Errorf("only %d false answers", found)
	}
}

// P7.9: a row that lies behind the nodes whole can be lied about too.
func TestBetrayBehind(t *testing.T) {
	r := rand.New(rand.NewSource(44))
	nodes := hashes(r, 5)
	all := grown(narrow, 2, nodes)
	q := ask(2, 6, 2, 2)
	q.Root = all[3][0]
	for range 20 {
		list := answered(all, 2, q)
		for reached(narrow, q, list) != q.Root || list[0] == all[0][6] {
			list[0] = hashes(r, 1)[0]
		}
		if at := checkBetray(t, narrow, 2, nodes, all, q, list); at.level < 3 {
			t.Errorf("a collision at the level %d", at.level)
		}
	}
}

// P7.9: another tree, of which the root is not the query's; a tree of a wide scale, of which nobody finds a collision.
func TestBetrayApart(t *testing.T) {
	r := rand.New(rand.NewSource(45))
	for _, sc := range []api.Scale{own, {Block: 64, Width: 6}} {
		for n := 2; n <= 9; n++ {
			nodes, others := hashes(r, n), hashes(r, n)
			all := grown(sc, 0, nodes)
			for _, q := range queries(n, 0) {
				if !whole(rise(n), q) {
					continue
				}
				q.Root = all[rise(n)][0]
				right := answered(all, 0, q)
				u, v, e := proof.Betray(sc, 0, others, q, right)
				noTexts(t, fmt.Sprint("Betray of another tree, ", q), u, v, e, api.ErrApart)
				u, v, e = proof.Betray(sc, 0, nodes, q, right)
				noTexts(t, fmt.Sprint("Betray of the right answer, ", q), u, v, e, api.ErrSame)
				// A tree that has the same hashes where the answer is, and another root, is apart too.
				last := slices.Clone(nodes)
				last[n-1][0]++
				u, v, e = proof.Betray(sc, 0, last, q, right)
				noTexts(t, fmt.Sprint("Betray of a tree with another last node, ", q), u, v, e, api.ErrApart)
			}
		}
	}
}

// P7.9, P7.10: the errors are those of Verify, ahead of its own.
func TestBetrayErrors(t *testing.T) {
	r := rand.New(rand.NewSource(46))
	nodes := hashes(r, 5)
	all := grown(own, 0, nodes)
	many := append(slices.Clone(ends), -1, 0, 1, 2, 3, 4, 48)
	pick := func() int { return many[r.Intn(len(many))] }
	refuse := func(sc api.Scale, low int, nodes []api.Hash, q api.Query, list []api.Hash) {
		t.Helper()
		want := proof.Verify(sc, len(nodes), low, q, list)
		u, v, e := proof.Betray(sc, low, nodes, q, list)
		if want == api.OK {
			t.Fatalf("Verify(%v, %d nodes, %d, %v): OK", sc, len(nodes), low, q)
		}
		noTexts(t, fmt.Sprint("Betray", sc, len(nodes), low, q, len(list)), u, v, e, want)
	}
	for _, sc := range append(slices.Clone(wrongs), own) {
		for range 1000 {
			refuse(sc, pick(), nodes[:r.Intn(6)], ask(pick(), pick(), pick(), pick()), nodes[:r.Intn(6)])
			refuse(sc, 0, nodes[:r.Intn(6)], ask(r.Intn(3), pick(), 2<<r.Intn(3), pick()), nodes[:r.Intn(6)])
		}
	}
	for _, q := range queries(5, 0) {
		q.Root = all[3][0]
		right := answered(all, 0, q)
		refuse(own, 0, nodes, q, right[1:])
		refuse(own, 0, nodes, q, append(right, right[0]))
		refuse(own, 0, nodes, q, nil)
		right[0][5]++
		refuse(own, 0, nodes, q, right)
	}
	q := ask(0, 0, 2, math.MaxInt)
	refuse(own, 0, make([]api.Hash, 1048577), q, nil)
}
