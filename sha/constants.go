package sha

import (
	"math/bits"
	"sync"
)

// The numbers that FIPS 180-4 starts and mixes with. They are the first 32 bits behind the point of roots of the first primes: whoever sums first works them out, once.
var (
	constantsReady sync.Once
	startState     [8]uint32
	roundConstants [64]uint32
)

// workOutConstants fills the two tables: square roots of the first 8 primes, cube roots of the first 64.
func workOutConstants() {
	prime := uint64(1)
	for i := range roundConstants {
		prime = primeBehind(prime)
		if i < len(startState) {
			startState[i] = behindPoint(prime, topOfSquare)
		}
		roundConstants[i] = behindPoint(prime<<32, topOfCube)
	}
}

// primeBehind answers the least prime that is greater than n.
func primeBehind(n uint64) uint64 {
	for n++; !isPrime(n); n++ {
	}
	return n
}

// isPrime tells whether n, 2 or more, is a prime.
func isPrime(n uint64) bool {
	for d := uint64(2); d*d <= n; d++ {
		if n%d == 0 {
			return false
		}
	}
	return true
}

// behindPoint answers the first 32 bits behind the point of a prime's root: the lowest ones of the greatest x whose power, its lower 64 bits left away, is less than limit. A prime is no power of a whole number, so no x is just at the limit.
func behindPoint(limit uint64, topOfPower func(x uint64) uint64) uint32 {
	x := uint64(0)
	// Each of these roots is less than 8, so three bits stand ahead of the point.
	for bit := uint64(1) << 34; bit > 0; bit >>= 1 {
		if topOfPower(x|bit) < limit {
			x |= bit
		}
	}
	return uint32(x)
}

// topOfSquare is x*x without its lower 64 bits.
func topOfSquare(x uint64) uint64 {
	high, _ := bits.Mul64(x, x)
	return high
}

// topOfCube is x*x*x without its lower 64 bits; x has at most 35 bits, so that what is left has no more than 64.
func topOfCube(x uint64) uint64 {
	high, low := bits.Mul64(x, x)
	carry, _ := bits.Mul64(low, x)
	return high*x + carry
}
