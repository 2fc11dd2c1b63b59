package digest_test

import (
	"math"
	"math/big"
	"slices"
	"testing"

	"torrent/api"
	"torrent/digest"
)

// sieve answers the primes up to a bound, by striking out multiples.
func sieve(bound int) []int {
	struck := make([]bool, bound+1)
	var primes []int
	for n := 2; n <= bound; n++ {
		if struck[n] {
			continue
		}
		primes = append(primes, n)
		for m := n * n; m <= bound; m += n {
			struck[m] = true
		}
	}
	return primes
}

// P1.2: every number of primes that may be asked for.
func TestPrimesAreTheFirst(t *testing.T) {
	want := sieve(311)
	if len(want) != 64 {
		t.Fatalf("the sieve has %d primes", len(want))
	}
	for n := range 65 {
		got, e := digest.Primes(n)
		if e != api.OK || !slices.Equal(got, want[:n]) {
			t.Errorf("Primes(%d) = %v, %d", n, got, e)
		}
	}
}

// P1.2: numbers that may not be.
func TestPrimesRefused(t *testing.T) {
	for _, n := range []int{-1, -64, 65, 66, 1 << 20, math.MinInt, math.MaxInt} {
		if got, e := digest.Primes(n); e != api.ErrCount || got != nil {
			t.Errorf("Primes(%d) = %v, %d", n, got, e)
		}
	}
}

// P0.5: what a caller writes into a list of primes changes neither a later list nor the tables.
func TestPrimesAreNewMemory(t *testing.T) {
	rounds, first := digest.Table()
	got, _ := digest.Primes(64)
	got = got[:cap(got)]
	for i := range got {
		got[i] = 4
	}
	again, _ := digest.Primes(64)
	if !slices.Equal(again, sieve(311)) {
		t.Errorf("Primes(64) = %v", again)
	}
	if r, f := digest.Table(); r != rounds || f != first {
		t.Error("the tables have changed")
	}
}

// rootOf answers the greatest r with r to the power degree at most p * 2^(32 * degree), by halving.
func rootOf(p, degree int64) *big.Int {
	bound := new(big.Int).Lsh(big.NewInt(p), uint(32*degree))
	low, high := big.NewInt(0), new(big.Int).Lsh(big.NewInt(1), 40)
	for {
		mid := new(big.Int).Add(low, high)
		mid.Rsh(mid, 1)
		if mid.Cmp(low) == 0 {
			return low
		}
		if new(big.Int).Exp(mid, big.NewInt(degree), nil).Cmp(bound) <= 0 {
			low = mid
		} else {
			high = mid
		}
	}
}

// P1.3: every word of both tables, by the definition.
func TestTableByDefinition(t *testing.T) {
	rounds, first := digest.Table()
	for i, p := range sieve(311) {
		if want := uint32(rootOf(int64(p), 3).Uint64()); rounds[i] != want {
			t.Errorf("the round constant of %d is %d, want %d", p, rounds[i], want)
		}
		if i >= len(first) {
			continue
		}
		if want := uint32(rootOf(int64(p), 2).Uint64()); first[i] != want {
			t.Errorf("the state's word of %d is %d, want %d", p, first[i], want)
		}
	}
}

// P1.3: the words that the document names.
func TestTableExamples(t *testing.T) {
	rounds, first := digest.Table()
	if rounds[0] != 1116352408 || rounds[63] != 3329325298 {
		t.Errorf("the round constants go from %d to %d", rounds[0], rounds[63])
	}
	if first[0] != 1779033703 || first[7] != 1541459225 {
		t.Errorf("the first state goes from %d to %d", first[0], first[7])
	}
}
