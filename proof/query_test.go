package proof_test

import (
	"math"
	"math/big"
	"math/rand"
	"slices"
	"testing"

	"torrent/api"
	"torrent/proof"
)

// legal is Check by the words of the chapter, reckoned with numbers that never leave their range.
func legal(n, low int, q api.Query) api.Errno {
	if n < 1 || n > 1048576 {
		return api.ErrNodes
	}
	if low < 0 || low > 48 || low+rise(n) > 48 {
		return api.ErrLevel
	}
	return legalBetween(low, low+rise(n), q)
}

func legalBetween(low, top int, q api.Query) api.Errno {
	number := func(n int) *big.Int { return big.NewInt(int64(n)) }
	if q.Base < low || q.Base > top-1 {
		return api.ErrBase
	}
	if !slices.Contains([]int{2, 4, 8, 16, 32, 64, 128, 256, 512}, q.Length) {
		return api.ErrLength
	}
	last := new(big.Int).Add(number(q.Index), number(q.Length))
	room := new(big.Int).Lsh(number(1), uint(top-q.Base))
	if q.Index < 0 || q.Index%q.Length != 0 || last.Cmp(room) > 0 {
		return api.ErrRange
	}
	reach := new(big.Int).Add(number(q.Base), number(q.Proofs))
	if q.Proofs < 0 || reach.Cmp(number(top)) >= 0 {
		return api.ErrProofs
	}
	return api.OK
}

// uncles are counted layer by layer.
func uncles(q api.Query) int {
	n := 0
	for l := q.Base + rise(q.Length); l <= q.Base+q.Proofs; l++ {
		n++
	}
	return n
}

// checkQuery holds Check, Amount and Top of one query against the words of the chapter.
func checkQuery(t *testing.T, n, low int, q api.Query) {
	t.Helper()
	want := legal(n, low, q)
	if e := proof.Check(n, low, q); e != want {
		t.Errorf("Check(%d, %d, %v) = %d, want %d", n, low, q, e, want)
	}
	var level, place int
	if want == api.OK {
		level = q.Base + rise(q.Length) + uncles(q)
		place = q.Index / (1 << (level - q.Base))
	}
	if l, p, e := proof.Top(n, low, q); l != level || p != place || e != want {
		t.Errorf("Top(%d, %d, %v) = %d, %d, %d, want %d, %d, %d", n, low, q, l, p, e, level, place, want)
	}
	checkAmount(t, q)
}

func checkAmount(t *testing.T, q api.Query) {
	t.Helper()
	want, wantE := 0, legalBetween(0, 48, q)
	if wantE == api.OK {
		want = q.Length + uncles(q)
	}
	if n, e := proof.Amount(q); n != want || e != wantE {
		t.Errorf("Amount(%v) = %d, %d, want %d, %d", q, n, e, want, wantE)
	}
}

// P7.1, P7.2, P7.3: all queries of small numbers, to small trees.
func TestSmallQueries(t *testing.T) {
	for n := -1; n <= 18; n++ {
		for _, low := range []int{-1, 0, 1, 3} {
			for base := -2; base <= 9; base++ {
				for index := -2; index <= 18; index++ {
					for _, length := range []int{-2, -1, 0, 1, 2, 3, 4, 6, 8, 16, 32} {
						for proofs := -1; proofs <= 6; proofs++ {
							checkQuery(t, n, low, ask(base, index, length, proofs))
						}
					}
				}
			}
		}
	}
}

// P7.1: the limits of a tree: its nodes, its level, its height.
func TestTreeLimits(t *testing.T) {
	q := ask(0, 0, 2, 0)
	for _, c := range []struct {
		n, low int
		want   api.Errno
	}{
		{1048575, 0, api.OK}, {1048576, 0, api.OK}, {1048577, 0, api.ErrNodes}, {2, 0, api.OK}, {1, 0, api.ErrBase}, {0, 0, api.ErrNodes}, {-1, 0, api.ErrNodes},
		{1048576, 28, api.ErrBase}, {1048576, 29, api.ErrLevel}, {524289, 28, api.ErrBase}, {524288, 29, api.ErrBase}, {524288, 30, api.ErrLevel},
		{1, 48, api.ErrBase}, {1, 49, api.ErrLevel}, {2, 47, api.ErrBase}, {2, 48, api.ErrLevel}, {3, 46, api.ErrBase}, {3, 47, api.ErrLevel}, {2, -1, api.ErrLevel},
		{0, -1, api.ErrNodes}, {1048577, 49, api.ErrNodes},
	} {
		checkQuery(t, c.n, c.low, q)
		if e := proof.Check(c.n, c.low, q); e != c.want {
			t.Errorf("Check(%d, %d, %v) = %d, want %d", c.n, c.low, q, e, c.want)
		}
	}
	for _, n := range []int{1, 2, 3, 4, 5, 1023, 1024, 1025, 1048575, 1048576} {
		for low := 0; low <= 49; low++ {
			for base := low - 1; base <= 49; base++ {
				top := low + rise(n)
				for _, proofs := range []int{0, top - base - 2, top - base - 1, top - base} {
					checkQuery(t, n, low, ask(base, 0, 2, proofs))
				}
			}
		}
	}
}

// P7.1, P7.2, P7.3: the limits of a row: its length, its place in the layer.
func TestRowLimits(t *testing.T) {
	for _, n := range []int{511, 512, 513, 1024, 1025, 5000, 1048576} {
		for _, length := range []int{2, 128, 255, 256, 257, 510, 511, 512, 513, 514, 1023, 1024, 2048, 1048576, -512} {
			for base := range 12 {
				room := 1 << max(rise(n)-base, 0)
				for _, index := range []int{0, 1, length - 1, length, length + 1, room - length - 1, room - length, room - length + 1, room - 2, room - 1, room, room + length} {
					for _, proofs := range []int{0, 7, 8, 9, 10, rise(n) - base - 1, rise(n) - base} {
						checkQuery(t, n, 0, ask(base, index, length, proofs))
					}
				}
			}
		}
	}
}

// P7.2: a query as it stands, of a tree of which nothing is known.
func TestAmountLimits(t *testing.T) {
	for base := -1; base <= 49; base++ {
		for length := 1; length <= 1024; length *= 2 {
			room := 1 << max(48-base, 0)
			for _, index := range []int{-length, 0, length, room - 2*length, room - length, room - length + 1, room - 1, room, room + length} {
				for proofs := -1; proofs <= 49; proofs++ {
					checkAmount(t, ask(base, index, length, proofs))
				}
			}
		}
	}
}

// P7.1, P7.2, P7.3, P7.10: numbers at the ends of the ints, at each place and at several, the greatest among them.
func TestQueryEnds(t *testing.T) {
	many := append(slices.Clone(ends), -1, 0, 1, 2, 3, 8, 46, 47, 48, 49, 512, 1048576)
	for _, x := range many {
		checkQuery(t, x, 0, ask(0, 0, 2, 0))
		checkQuery(t, 5, x, ask(0, 0, 2, 0))
		checkQuery(t, 5, 0, ask(x, 0, 2, 0))
		checkQuery(t, 5, 0, ask(0, x, 2, 0))
		checkQuery(t, 5, 0, ask(0, 0, x, 0))
		checkQuery(t, 5, 0, ask(0, 0, 2, x))
		checkQuery(t, x, x, ask(x, x, x, x))
	}
	r := rand.New(rand.NewSource(1))
	pick := func() int { return many[r.Intn(len(many))] }
	for range 200000 {
		checkQuery(t, pick(), pick(), ask(pick(), pick(), pick(), pick()))
		checkQuery(t, 1+r.Intn(9), r.Intn(3), ask(pick(), pick(), pick(), pick()))
		checkQuery(t, 1+r.Intn(9), r.Intn(3), ask(r.Intn(4), pick(), 2<<r.Intn(9), pick()))
	}
}

// P7.1, P7.2: the root of a query is not looked at.
func TestQueryRoot(t *testing.T) {
	r := rand.New(rand.NewSource(2))
	for _, root := range hashes(r, 20) {
		for _, q := range []api.Query{ask(0, 6, 2, 2), ask(0, 6, 2, 3), ask(0, 8, 2, 0)} {
			e := proof.Check(5, 0, q)
			n, ne := proof.Amount(q)
			l, p, te := proof.Top(5, 0, q)
			q.Root = root
			if e2 := proof.Check(5, 0, q); e2 != e {
				t.Errorf("Check with a root: %d, without: %d", e2, e)
			}
			if n2, ne2 := proof.Amount(q); n2 != n || ne2 != ne {
				t.Errorf("Amount with a root: %d, without: %d", n2, n)
			}
			if l2, p2, te2 := proof.Top(5, 0, q); l2 != l || p2 != p || te2 != te {
				t.Errorf("Top with a root: %d %d, without: %d %d", l2, p2, l, p)
			}
		}
	}
}

// P7.1, P7.2, P7.3: the examples that the chapter writes out.
func TestQueryExamples(t *testing.T) {
	for _, c := range []struct {
		n, low int
		q      api.Query
		want   api.Errno
	}{
		{5, 0, ask(0, 0, 2, 2), api.OK}, {5, 0, ask(0, 0, 2, 3), api.ErrProofs}, {5, 0, ask(0, 1, 2, 2), api.ErrRange}, {5, 0, ask(0, 6, 2, 2), api.OK}, {5, 0, ask(0, 8, 2, 2), api.ErrRange},
		{5, 0, ask(0, 0, 1, 2), api.ErrLength}, {5, 0, ask(0, 0, 3, 2), api.ErrLength}, {5, 0, ask(0, 0, 0, 2), api.ErrLength}, {5, 0, ask(0, 0, -2, 2), api.ErrLength}, {5, 0, ask(0, 0, 1024, 2), api.ErrLength},
		{5, 0, ask(3, 0, 2, 2), api.ErrBase}, {5, 0, ask(-1, 0, 2, 2), api.ErrBase}, {1, 0, ask(0, 0, 2, 0), api.ErrBase}, {5, 2, ask(1, 0, 2, 2), api.ErrBase},
	} {
		if e := proof.Check(c.n, c.low, c.q); e != c.want {
			t.Errorf("Check(%d, %d, %v) = %d, want %d", c.n, c.low, c.q, e, c.want)
		}
	}
	for _, c := range []struct {
		q    api.Query
		want int
	}{{ask(0, 0, 2, 2), 4}, {ask(0, 0, 2, 1), 3}, {ask(0, 0, 2, 0), 2}, {ask(0, 0, 8, 2), 8}, {ask(0, 0, 8, 3), 9}} {
		if n, e := proof.Amount(c.q); n != c.want || e != api.OK {
			t.Errorf("Amount(%v) = %d, %d, want %d", c.q, n, e, c.want)
		}
	}
	for proofs, want := range [][2]int{{1, 3}, {2, 1}, {3, 0}} {
		if l, p, e := proof.Top(5, 0, ask(0, 6, 2, proofs)); [2]int{l, p} != want || e != api.OK {
			t.Errorf("Top(5, 0, 0 6 2 %d) = %d, %d, %d", proofs, l, p, e)
		}
	}
}

// planned is Plan by the words of the chapter.
func planned(n, low int, root api.Hash) []api.Query {
	var all []api.Query
	if n == 1 {
		return all
	}
	length := 8
	if rise(n) < 3 {
		length = 1 << rise(n)
	}
	for index := 0; index < n; index += length {
		all = append(all, api.Query{Root: root, Base: low, Index: index, Length: length, Proofs: low + rise(n) - 1 - low})
	}
	return all
}

// P7.7: the plans of trees, at the limits too; each query may be asked, leads to the root, and all of them together have each node once.
func TestPlan(t *testing.T) {
	r := rand.New(rand.NewSource(3))
	for _, root := range append(hashes(r, 1), api.Hash{}) {
		for _, n := range []int{1, 2, 3, 4, 5, 6, 7, 8, 9, 10, 15, 16, 17, 24, 25, 63, 64, 65, 1000, 1024, 1025, 1048575, 1048576} {
			for _, low := range []int{0, 1, 4, 48 - rise(n) - 1, 48 - rise(n)} {
				if low < 0 {
					continue
				}
				got, e := proof.Plan(n, low, root)
				if e != api.OK || !slices.Equal(got, planned(n, low, root)) {
					t.Errorf("Plan(%d, %d): %d queries, %d", n, low, len(got), e)
				}
				next := 0
				for _, q := range got {
					l, p, e := proof.Top(n, low, q)
					if e != api.OK || l != low+rise(n) || p != 0 || q.Index != next {
						t.Fatalf("Plan(%d, %d): %v leads to %d, %d, %d", n, low, q, l, p, e)
					}
					next += q.Length
				}
				if n > 1 && next < n {
					t.Errorf("Plan(%d, %d): %d nodes alone", n, low, next)
				}
			}
		}
	}
}

// P7.7, P7.10: trees that are not there have no plan.
func TestPlanErrors(t *testing.T) {
	root := api.Hash{7}
	refuse := func(n, low int, want api.Errno) {
		t.Helper()
		if l, e := proof.Plan(n, low, root); e != want || len(l) != 0 {
			t.Errorf("Plan(%d, %d): %d queries, %d, want %d", n, low, len(l), e, want)
		}
	}
	for _, x := range ends {
		refuse(x, 0, api.ErrNodes)
		refuse(x, x, api.ErrNodes)
		refuse(1, x, api.ErrLevel)
		refuse(1048576, x, api.ErrLevel)
	}
	for _, n := range []int{0, -1, 1048577, 1 << 21} {
		for _, low := range []int{math.MinInt, -1, 0, 48, 49} {
			refuse(n, low, api.ErrNodes)
		}
	}
	for n := 1; n <= 1048576; n = 3*n + 1 {
		refuse(n, -1, api.ErrLevel)
		refuse(n, 49-rise(n), api.ErrLevel)
	}
	refuse(1048576, 29, api.ErrLevel)
	if l, e := proof.Plan(1, 48, root); e != api.OK || len(l) != 0 {
		t.Errorf("Plan(1, 48): %d queries, %d", len(l), e)
	}
}
