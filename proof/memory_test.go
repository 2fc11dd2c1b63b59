package proof_test

import (
	"bytes"
	"math/rand"
	"slices"
	"testing"

	"torrent/api"
	"torrent/proof"
)

// mark is written over what must be nobody else's.
var mark = api.Hash{0xee, 0xee, 31: 0xee}

func spoilRow(row []api.Hash) {
	for i := range row[:cap(row)] {
		row[:cap(row)][i] = mark
	}
}

func spoilText(b []byte) {
	for i := range b[:cap(b)] {
		b[:cap(b)][i] = 0xee
	}
}

// P7.10, P0.4, P0.5: Prove changes nothing that it is handed, its spare room neither, and answers new memory: also where the row is the nodes themselves.
func TestProveMemory(t *testing.T) {
	r := rand.New(rand.NewSource(50))
	for n := 2; n <= 9; n++ {
		room := hashes(r, n+8)
		same := slices.Clone(room)
		all := grown(own, 2, room[:n])
		for _, q := range queries(n, 2) {
			first, _ := proof.Prove(own, 2, room[:n], q)
			second, _ := proof.Prove(own, 2, room[:n], q)
			spoilRow(first)
			if !slices.Equal(room, same) || !slices.Equal(second, answered(all, 2, q)) {
				t.Fatalf("Prove of %d nodes, %v: an answer was written over, and something else has changed", n, q)
			}
			third, e := proof.Prove(own, 2, room[:n], q)
			isRow(t, "Prove once more", third, e, second)
			nodes := slices.Clone(room[:n])
			kept, _ := proof.Prove(own, 2, nodes, q)
			spoilRow(nodes)
			if !slices.Equal(kept, second) {
				t.Fatalf("Prove of %d nodes, %v: the answer has changed with the nodes", n, q)
			}
		}
	}
}

// P7.10, P0.4: Climb, Verify and Betray change neither nodes nor hashes nor what lies behind them.
func TestHashesStay(t *testing.T) {
	r := rand.New(rand.NewSource(51))
	for n := 2; n <= 9; n++ {
		room := hashes(r, n+8)
		same := slices.Clone(room)
		all := grown(narrow, 0, room[:n])
		for _, q := range queries(n, 0) {
			q.Root = all[rise(n)][0]
			right := answered(all, 0, q)
			if whole(rise(n), q) {
				right = forge(r, q, right)
			}
			list := append(slices.Clone(right), hashes(r, 10)...)
			sameList := slices.Clone(list)
			proof.Climb(narrow, q, list[:len(right)])
			proof.Verify(narrow, n, 0, q, list[:len(right)])
			u, v, _ := proof.Betray(narrow, 0, room[:n], q, list[:len(right)])
			u2, v2 := slices.Clone(u), slices.Clone(v)
			spoilText(u)
			if !bytes.Equal(v, v2) {
				t.Fatal("the two texts of Betray share memory")
			}
			spoilText(v)
			if !slices.Equal(list, sameList) || !slices.Equal(room, same) {
				t.Fatalf("hashes have changed, %d nodes, %v", n, q)
			}
			x, y, _ := proof.Betray(narrow, 0, room[:n], q, list[:len(right)])
			if !bytes.Equal(x, u2) || !bytes.Equal(y, v2) {
				t.Fatalf("Betray once more: %x, %x, was %x, %x", x, y, u2, v2)
			}
		}
	}
}

// P7.10: the texts of Collide are no part of the contents, and nothing is written behind these.
func TestCollideMemory(t *testing.T) {
	r := rand.New(rand.NewSource(52))
	y := newTable(r)
	for range 500 {
		a, b := y.twins(r, r.Intn(4), byte(r.Intn(256)))
		if bytes.Equal(a, b) {
			continue
		}
		n := len(a)
		a, b = append(slices.Clone(a), content(r, 100)...), append(slices.Clone(b), content(r, 100)...)
		sameA, sameB := slices.Clone(a), slices.Clone(b)
		u, v, e := proof.Collide(narrow, a[:n], b[:n])
		if e != api.OK {
			t.Fatalf("Collide of twins: %d", e)
		}
		u2, v2 := slices.Clone(u), slices.Clone(v)
		spoilText(u)
		if !bytes.Equal(v, v2) {
			t.Fatal("the two texts of Collide share memory")
		}
		spoilText(v)
		if !bytes.Equal(a, sameA) || !bytes.Equal(b, sameB) {
			t.Fatal("contents have changed")
		}
		x, z, _ := proof.Collide(narrow, a[:n], b[:n])
		spoilText(a)
		spoilText(b)
		if !bytes.Equal(x, u2) || !bytes.Equal(z, v2) {
			t.Fatal("the texts of Collide have changed with the contents")
		}
	}
}

// P7.10, P0.5: each plan is a list of its own.
func TestPlanMemory(t *testing.T) {
	root := api.Hash{7}
	for _, n := range []int{2, 9, 100} {
		first, _ := proof.Plan(n, 1, root)
		second, _ := proof.Plan(n, 1, root)
		for i := range first[:cap(first)] {
			first[:cap(first)][i] = api.Query{Root: mark, Base: -7}
		}
		third, _ := proof.Plan(n, 1, root)
		if want := planned(n, 1, root); !slices.Equal(second, want) || !slices.Equal(third, want) {
			t.Errorf("a plan of %d nodes has changed with another", n)
		}
	}
}

// P0.5: nil and empty are the same.
func TestNil(t *testing.T) {
	for _, none := range [][]api.Hash{nil, {}} {
		row, e := proof.Prove(own, 0, none, ask(0, 0, 2, 0))
		noRow(t, "Prove", row, e, api.ErrNodes)
		h, e := proof.Climb(own, ask(0, 0, 2, 0), none)
		isHash(t, "Climb", h, e, api.Hash{}, api.ErrAmount)
		if e := proof.Verify(own, 2, 0, ask(0, 0, 2, 0), none); e != api.ErrAmount {
			t.Errorf("Verify: %d", e)
		}
		u, v, e := proof.Betray(own, 0, none, ask(0, 0, 2, 0), none)
		noTexts(t, "Betray", u, v, e, api.ErrNodes)
		u, v, e = proof.Betray(own, 0, []api.Hash{{1}, {2}}, ask(0, 0, 2, 0), none)
		noTexts(t, "Betray", u, v, e, api.ErrAmount)
	}
	for _, none := range [][]byte{nil, {}} {
		u, v, e := proof.Collide(own, none, nil)
		noTexts(t, "Collide", u, v, e, api.ErrSame)
		u, v, e = proof.Collide(own, none, []byte{0})
		noTexts(t, "Collide", u, v, e, api.ErrApart)
	}
}
