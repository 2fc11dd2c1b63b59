package proof_test

import (
	"fmt"
	"math"
	"math/rand"
	"slices"
	"testing"

	"torrent/api"
	"torrent/proof"
)

// checkAnswer holds Prove, Climb and Verify of one query against a tree that is written out.
func checkAnswer(t *testing.T, sc api.Scale, low int, nodes []api.Hash, all [][]api.Hash, q api.Query) {
	t.Helper()
	call := fmt.Sprintf(" at %v of %d nodes at %d, %v", sc, len(nodes), low, q)
	want := answered(all, low, q)
	got, e := proof.Prove(sc, low, nodes, q)
	isRow(t, "Prove"+call, got, e, want)
	if n, e := proof.Amount(q); n != len(want) || e != api.OK {
		t.Errorf("Amount%s: %d, %d, want %d", call, n, e, len(want))
	}
	level, place, e := proof.Top(len(nodes), low, q)
	if e != api.OK {
		t.Fatalf("Top%s: %d", call, e)
	}
	// What the answer leads to is the tree's own node at the place that Top tells.
	node := all[level-low][place]
	h, e := proof.Climb(sc, q, want)
	isHash(t, "Climb"+call, h, e, node, api.OK)
	q.Root = node
	verdict := api.OK
	if level != low+rise(len(nodes)) {
		verdict = api.ErrPart
	}
	if e := proof.Verify(sc, len(nodes), low, q, want); e != verdict {
		t.Errorf("Verify%s: %d, want %d", call, e, verdict)
	}
	if whole(low+rise(len(nodes)), q) != (verdict == api.OK) {
		t.Errorf("Top%s: %d", call, level)
	}
}

// P7.4, P7.5, P7.6: every query that may be asked of small trees, at several levels and scales.
func TestAnswers(t *testing.T) {
	r := rand.New(rand.NewSource(10))
	for _, sc := range scales {
		for n := 1; n <= 20; n++ {
			for _, low := range []int{0, 1, 5, 48 - rise(n)} {
				nodes := hashes(r, n)
				all := grown(sc, low, nodes)
				for _, q := range queries(n, low) {
					checkAnswer(t, sc, low, nodes, all, q)
				}
			}
		}
	}
}

// P7.4, P7.5, P7.6: rows as long as they may be, and places far behind the nodes.
func TestLongAnswers(t *testing.T) {
	r := rand.New(rand.NewSource(11))
	for _, n := range []int{257, 511, 512, 513, 1024, 1025, 1500} {
		low := r.Intn(30)
		nodes := hashes(r, n)
		all := grown(own, low, nodes)
		top := low + rise(n)
		for base := low; base < top; base++ {
			for length := 2; length <= min(512, 1<<(top-base)); length *= 2 {
				room := 1 << (top - base)
				for _, index := range []int{0, room - length, r.Intn(room/length) * length, n / length * length % room} {
					for _, proofs := range []int{0, r.Intn(top - base), top - base - 1} {
						checkAnswer(t, own, low, nodes, all, ask(base, index, length, proofs))
					}
				}
			}
		}
	}
}

// P7.4: as many nodes as there may be, and no more.
func TestMostNodes(t *testing.T) {
	t.Parallel()
	r := rand.New(rand.NewSource(12))
	nodes := hashes(r, 1048577)
	for _, c := range []struct{ n, low, index int }{{1048576, 28, 1048576 - 512}, {1048575, 0, 1048576 - 512}, {524289, 0, 524288}} {
		t.Run(fmt.Sprint(c.n), func(t *testing.T) {
			t.Parallel()
			all := grown(own, c.low, nodes[:c.n])
			checkAnswer(t, own, c.low, nodes[:c.n], all, ask(c.low, c.index, 512, 19))
			checkAnswer(t, own, c.low, nodes[:c.n], all, ask(c.low+19, 0, 2, 0))
		})
	}
	row, e := proof.Prove(own, 0, nodes, ask(0, 0, 2, 0))
	noRow(t, "Prove of too many nodes", row, e, api.ErrNodes)
}

// P7.4, P7.5, P7.6: the examples that the chapter writes out.
func TestAnswerExamples(t *testing.T) {
	r := rand.New(rand.NewSource(13))
	row := hashes(r, 7)
	a, b, c, d, e, x, y := row[0], row[1], row[2], row[3], row[4], row[5], row[6]
	p := func(l, r api.Hash) api.Hash { return two(own, l, r) }
	zero, one, four := api.Hash{}, blank(own, 1), blank(own, 4)
	right := p(p(e, zero), one)
	got, err := proof.Prove(own, 0, row[:5], ask(0, 2, 2, 2))
	isRow(t, "Prove of a b c d e", got, err, []api.Hash{c, d, p(a, b), right})
	got, err = proof.Prove(own, 4, row[:3], ask(4, 2, 2, 1))
	isRow(t, "Prove of a b c", got, err, []api.Hash{c, four, p(a, b)})
	h, err := proof.Climb(own, ask(0, 2, 2, 2), []api.Hash{c, d, x, y})
	isHash(t, "Climb of c d x y", h, err, p(p(x, p(c, d)), y), api.OK)
	q := ask(0, 0, 8, 0)
	q.Root = p(p(p(a, b), p(c, d)), right)
	eight := []api.Hash{a, b, c, d, e, zero, zero, zero}
	if err := proof.Verify(own, 5, 0, q, eight); err != api.OK {
		t.Errorf("Verify of the row of eight: %d", err)
	}
	q = ask(0, 0, 2, 1)
	q.Root = p(p(a, b), p(c, d))
	if err := proof.Verify(own, 5, 0, q, []api.Hash{a, b, p(c, d)}); err != api.ErrPart {
		t.Errorf("Verify of a part: %d", err)
	}
}

// P7.4: nodes count with all their bytes, at a narrow scale too; what is behind the nodes is not their spare room.
func TestNodesAsTheyStand(t *testing.T) {
	r := rand.New(rand.NewSource(14))
	nodes := hashes(r, 8)
	got, e := proof.Prove(narrow, 0, nodes[:3], ask(0, 2, 2, 1))
	isRow(t, "Prove", got, e, []api.Hash{nodes[2], {}, two(narrow, nodes[0], nodes[1])})
	other := slices.Clone(nodes)
	other[0][31]++
	again, _ := proof.Prove(narrow, 0, other, ask(0, 0, 2, 0))
	if again[0] != other[0] {
		t.Error("a node's last byte is lost")
	}
}

// P7.5: answers of which nothing is known but the query, with uncles as many as there may be.
func TestClimb(t *testing.T) {
	r := rand.New(rand.NewSource(15))
	for range 2000 {
		sc := scales[r.Intn(len(scales))]
		base := r.Intn(48)
		length := 2 << r.Intn(min(9, 48-base))
		room := 1 << (48 - base)
		q := ask(base, r.Intn(room/length)*length, length, r.Intn(48-base))
		if r.Intn(4) == 0 {
			q.Index, q.Proofs = room-length, 47-base
		}
		q.Root = hashes(r, 1)[0]
		list := hashes(r, q.Length+uncles(q))
		h, e := proof.Climb(sc, q, list)
		isHash(t, fmt.Sprint("Climb", sc, q), h, e, reached(sc, q, list), api.OK)
	}
	q := ask(0, 1<<48-512, 512, 47)
	list := hashes(r, 512+39)
	h, e := proof.Climb(own, q, list)
	isHash(t, "Climb of the most hashes", h, e, reached(own, q, list), api.OK)
}

// P7.5, P7.6: answers that are too short or too long, by one or by many.
func TestAmounts(t *testing.T) {
	r := rand.New(rand.NewSource(16))
	for n := 2; n <= 17; n++ {
		nodes := hashes(r, n)
		all := grown(own, 0, nodes)
		for _, q := range queries(n, 0) {
			q.Root = all[rise(n)][0]
			list := append(answered(all, 0, q), hashes(r, 600)...)
			right := q.Length + uncles(q)
			verdict := api.ErrAmount
			if !whole(rise(n), q) {
				verdict = api.ErrPart
			}
			for _, many := range []int{0, 1, q.Length, right - 1, right + 1, 2 * right, len(list)} {
				if many == right {
					continue
				}
				h, e := proof.Climb(own, q, list[:many])
				isHash(t, fmt.Sprint("Climb ", q, many), h, e, api.Hash{}, api.ErrAmount)
				if e := proof.Verify(own, n, 0, q, list[:many]); e != verdict {
					t.Errorf("Verify of %d nodes, %v, %d hashes: %d, want %d", n, q, many, e, verdict)
				}
			}
			h, e := proof.Climb(own, q, nil)
			isHash(t, "Climb of nothing", h, e, api.Hash{}, api.ErrAmount)
		}
	}
}

// P7.6: one bit of one hash, or of the root, is another; two hashes have changed places.
func TestFalse(t *testing.T) {
	r := rand.New(rand.NewSource(17))
	for n := 2; n <= 17; n++ {
		nodes := hashes(r, n)
		all := grown(own, 3, nodes)
		for _, q := range queries(n, 3) {
			q.Root = all[rise(n)][0]
			list := answered(all, 3, q)
			verify := func(q api.Query, want api.Errno) {
				t.Helper()
				if !whole(3+rise(n), q) {
					want = api.ErrPart
				}
				if e := proof.Verify(own, n, 3, q, list); e != want {
					t.Errorf("Verify of %d nodes, %v: %d, want %d", n, q, e, want)
				}
			}
			verify(q, api.OK)
			for i := range list {
				at, bit := r.Intn(32), byte(1)<<r.Intn(8)
				list[i][at] ^= bit
				verify(q, api.ErrFalse)
				list[i][at] ^= bit
			}
			if list[0] != list[1] {
				list[0], list[1] = list[1], list[0]
				verify(q, api.ErrFalse)
				list[0], list[1] = list[1], list[0]
			}
			wrong := q
			wrong.Root[r.Intn(32)] ^= byte(1) << r.Intn(8)
			verify(wrong, api.ErrFalse)
			wrong.Root = api.Hash{}
			verify(wrong, api.ErrFalse)
		}
	}
}

// P7.6: an answer at one place is none at another, and one of a narrow scale none of a wide one.
func TestElsewhere(t *testing.T) {
	r := rand.New(rand.NewSource(18))
	nodes := hashes(r, 8)
	for _, sc := range []api.Scale{own, {Block: 64, Width: 8}} {
		all := grown(sc, 0, nodes)
		for from := 0; from < 8; from += 2 {
			list := answered(all, 0, ask(0, from, 2, 2))
			for to := 0; to < 8; to += 2 {
				q := ask(0, to, 2, 2)
				q.Root = all[3][0]
				want := api.ErrFalse
				if from == to {
					want = api.OK
				}
				if e := proof.Verify(sc, 8, 0, q, list); e != want {
					t.Errorf("Verify of the answer for %d as that for %d: %d, want %d", from, to, e, want)
				}
				if e := proof.Verify(api.Scale{Block: 64, Width: 16}, 8, 0, q, list); e != api.ErrFalse {
					t.Errorf("Verify at another width: %d", e)
				}
			}
		}
	}
}

// P7.4, P7.5, P7.6, P0.2, P0.8: what is wrong first is told first, and nothing beside it.
func TestAnswerErrors(t *testing.T) {
	r := rand.New(rand.NewSource(19))
	nodes := hashes(r, 5)
	many := append(slices.Clone(ends), -1, 0, 1, 2, 3, 4, 47, 48)
	pick := func() int { return many[r.Intn(len(many))] }
	for range 20000 {
		sc, n, low := own, r.Intn(6), pick()
		if r.Intn(3) == 0 {
			sc = wrongs[r.Intn(len(wrongs))]
		}
		if r.Intn(2) == 0 {
			low = 0
		}
		q := ask(pick(), pick(), pick(), pick())
		if r.Intn(2) == 0 {
			q = ask(r.Intn(4)-1, pick(), 2, r.Intn(4)-1)
		}
		want, climb := legal(n, low, q), legalBetween(0, 48, q)
		if sc != own {
			want, climb = api.ErrScale, api.ErrScale
		}
		list := hashes(r, r.Intn(2))
		row, e := proof.Prove(sc, low, nodes[:n], q)
		if want != api.OK {
			noRow(t, fmt.Sprint("Prove", sc, n, low, q), row, e, want)
		}
		if want == api.OK {
			want = api.ErrAmount
			if !whole(low+rise(n), q) {
				want = api.ErrPart
			}
		}
		if e := proof.Verify(sc, n, low, q, list); e != want {
			t.Errorf("Verify(%v, %d, %d, %v): %d, want %d", sc, n, low, q, e, want)
		}
		if climb == api.OK {
			climb = api.ErrAmount
		}
		h, e := proof.Climb(sc, q, list)
		isHash(t, fmt.Sprint("Climb", sc, q), h, e, api.Hash{}, climb)
	}
}

// P7.6, P0.1: a tree as large as it may be is told by its number alone; numbers beyond it are refused.
func TestVerifyNumbers(t *testing.T) {
	r := rand.New(rand.NewSource(20))
	q := ask(28, 1048576-512, 512, 19)
	list := hashes(r, 512+11)
	q.Root = reached(own, q, list)
	for _, c := range []struct {
		n, low int
		want   api.Errno
	}{
		{1048576, 28, api.OK}, {1048575, 28, api.OK}, {524289, 28, api.OK}, {524288, 28, api.ErrRange}, {1048577, 28, api.ErrNodes}, {0, 28, api.ErrNodes}, {math.MinInt, 28, api.ErrNodes}, {math.MaxInt, 28, api.ErrNodes},
		{1048576, 29, api.ErrLevel}, {1048576, 27, api.ErrRange}, {1048576, math.MaxInt, api.ErrLevel}, {1048576, math.MinInt, api.ErrLevel}, {524288, 29, api.ErrBase},
	} {
		if e := proof.Verify(own, c.n, c.low, q, list); e != c.want {
			t.Errorf("Verify of %d nodes at %d: %d, want %d", c.n, c.low, e, c.want)
		}
	}
}
