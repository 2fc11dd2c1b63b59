package digest

import (
	"math/bits"

	"torrent/api"
)

// maxPrimes is how many primes the function needs: one a round.
const maxPrimes = 64

// The tables of the function are worked out, so that no digit of them can be mistyped.
var (
	rounds = roundConstants()
	first  = firstState()
)

// Primes answers the first n primes.
func Primes(n int) ([]int, api.Errno) {
	if n < 0 || n > maxPrimes {
		return nil, api.ErrCount
	}
	var primes []int
	for c := 2; len(primes) < n; c++ {
		if isPrime(c, primes) {
			primes = append(primes, c)
		}
	}
	return primes, api.OK
}

// isPrime tells whether c is prime, given all primes below it.
func isPrime(c int, below []int) bool {
	for _, p := range below {
		if c%p == 0 {
			return false
		}
	}
	return true
}

// Table answers the round constants and the first state.
func Table() ([64]uint32, [8]uint32) { return rounds, first }

func roundConstants() [64]uint32 {
	var table [64]uint32
	primes, _ := Primes(len(table))
	for i, p := range primes {
		table[i] = rootFraction(uint64(p), 3)
	}
	return table
}

func firstState() [8]uint32 {
	var table [8]uint32
	primes, _ := Primes(len(table))
	for i, p := range primes {
		table[i] = rootFraction(uint64(p), 2)
	}
	return table
}

// rootFraction answers the first 32 bits behind the point of a root of p: the square root (degree 2) or the cube root (degree 3).
func rootFraction(p uint64, degree int) uint32 {
	// The square root of the greatest prime, 311, is below 32, so the root has at most 5 bits ahead of the point.
	const rootBits = 32 + 5
	r := uint64(0)
	for i := range rootBits {
		if with := r | 1<<(rootBits-1-i); powerFits(with, p, degree) {
			r = with
		}
	}
	return uint32(r)
}

// powerFits tells whether r to the power degree is at most p * 2^(32 * degree), in numbers of 128 bits.
func powerFits(r, p uint64, degree int) bool {
	high, low := uint64(0), uint64(1)
	for range degree {
		carry, product := bits.Mul64(low, r)
		high, low = high*r+carry, product
	}
	// The low 64 bits of the bound are zero, since degree is at least 2.
	bound := p << (32*degree - 64)
	return high < bound || high == bound && low == 0
}
