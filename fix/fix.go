// Package fix is layer 1: see shared/doc/01-fix.md.
package fix

import "math/bits"

// F is a number with 32 bits behind the point.
type F uint64

// One, and the greatest one.
const (
	One F = 1 << 32
	Max F = 1<<64 - 1
)

// point is how many bits lie behind the point.
const point = 32

// rootBits is how many bits a root can have: its square is below 2^96 as bits.
const rootBits = 48

// Of: a whole number.
func Of(n uint32) F { return F(n) << point }

// Ratio: one by another one, rounded down.
func Ratio(a, b uint64) F {
	high, low := widen(a)
	// The quotient has a word of its own only if high is below b; b being 0 is refused here, too.
	if high >= b {
		return Max
	}
	q, _ := bits.Div64(high, low, b)
	return F(q)
}

// Add: the sum.
func (a F) Add(b F) F {
	if a > Max-b {
		return Max
	}
	return a + b
}

// Sub: the difference.
func (a F) Sub(b F) F {
	if a < b {
		return 0
	}
	return a - b
}

// Mul: the product, rounded down.
func (a F) Mul(b F) F { return F(a.Times(uint64(b))) }

// Div: the quotient, rounded down. Both have the same point, so it is the ratio of their bits.
func (a F) Div(b F) F { return Ratio(uint64(a), uint64(b)) }

// Half: halved so many times, rounded down.
func (a F) Half(k int) F {
	if k < 1 {
		return a
	}
	if k > 63 {
		return 0
	}
	return a >> k
}

// Whole: the whole number below.
func (a F) Whole() uint32 { return uint32(a >> point) }

// Times: so many times it, rounded down.
func (a F) Times(n uint64) uint64 {
	high, low := bits.Mul64(uint64(a), n)
	// What is left above the word, once the bits behind the point are gone, has no place.
	if high>>point != 0 {
		return 1<<64 - 1
	}
	return high<<point | low>>point
}

// Root: the square root, rounded down.
func (a F) Root() F {
	var root F
	for place := rootBits - 1; place >= 0; place-- {
		tried := root | 1<<place
		if tried.squareWithin(a) {
			root = tried
		}
	}
	return root
}

// squareWithin: is the exact square at most b? It is held against b in two words, since one would round it.
func (a F) squareWithin(b F) bool {
	high, low := bits.Mul64(uint64(a), uint64(a))
	mostHigh, mostLow := widen(uint64(b))
	return high < mostHigh || high == mostHigh && low <= mostLow
}

// widen: n with the point's bits behind it, as two words.
func widen(n uint64) (high, low uint64) { return n >> point, n << point }
