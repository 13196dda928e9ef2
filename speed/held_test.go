package speed

import (
	"testing"

	"terrace/api"
	"terrace/fix"
)

// sizes and trips are those at their bounds and far from them.
var (
	sizes = []int{first, first + 10, -320, -1, 0, 1, 10, 319, 320, 321, 1<<32 + 10, last}
	trips = []int{first, first + 5, -1048576, -1, 0, 1, 5, 1048575, 1048576, 1048577, 1<<32 + 5, last}
)

func isRightSize(size int) bool { return size == 1 || size == 10 || size == 319 || size == 320 }

func isRightTrip(rtt int) bool { return rtt == 1 || rtt == 5 || rtt == 1048575 || rtt == 1048576 }

// P19.1: a size and a round trip, each alone and together; what is refused changes nothing, whatever the limit is.
func TestHeldWrong(t *testing.T) {
	refused, fine := 0, 0
	for _, size := range sizes {
		for _, rtt := range trips {
			for _, limit := range []fix.F{0, 2 * one, 5 * one, 8 * one, 20 * one, highest} {
				s, p := made(t, 2*one, 8*one)
				e := held(t, s, p, limit, size, rtt)
				if isRightSize(size) && isRightTrip(rtt) {
					errnoIs(t, "Held", e, api.OK)
					fine++
					continue
				}
				errnoIs(t, "Held with a wrong one", e, api.ErrRange)
				rateIs(t, "Held with a wrong one", s, 8*one)
				refused++
			}
		}
	}
	if refused != 768 || fine != 96 {
		t.Fatalf("%d refused, %d fine", refused, fine)
	}
}

// P19.1: what was refused is as if it had not been, for what is done behind it.
func TestHeldWrongIsForgotten(t *testing.T) {
	s, p := made(t, 2*one, 8*one)
	for range 5 {
		errnoIs(t, "Held", held(t, s, p, 3*one, 321, 5), api.ErrRange)
		errnoIs(t, "Held", held(t, s, p, 30*one, 10, 1048577), api.ErrRange)
	}
	errnoIs(t, "Held", held(t, s, p, 30*one, 10, 5), api.OK)
	rateIs(t, "Held", s, 10*one)
	errnoIs(t, "Held", held(t, s, p, 3*one, 0, 0), api.ErrRange)
	left(t, s, p)
	rateIs(t, "Left", s, 5*one)
}

// P19.1, P19.2: the limit against the floor, the rate, and the rate with a step more.
func TestHeldLimit(t *testing.T) {
	const floor, rate, step = 2 * one, 8 * one, 2 * one
	for _, c := range []struct{ limit, want fix.F }{
		{0, floor}, {1, floor}, {floor - 1, floor}, {floor, floor}, {floor + 1, floor + 1},
		{rate - 1, rate - 1}, {rate, rate}, {rate + 1, rate + 1},
		{rate + step - 1, rate + step - 1}, {rate + step, rate + step}, {rate + step + 1, rate + step},
		{1 << 63, rate + step}, {highest - 1, rate + step}, {highest, rate + step},
	} {
		s, p := made(t, floor, rate)
		errnoIs(t, "Held", held(t, s, p, c.limit, 10, 5), api.OK)
		rateIs(t, "Held", s, c.want)
	}
}

// P19.1: a step is rounded down: the least one, the greatest one, and those that a round trip doesn't divide.
func TestHeldStep(t *testing.T) {
	for _, c := range []struct {
		size, rtt int
		step      fix.F
	}{
		{1, 1048576, 4096}, {1, 1048575, 4096}, {1, 1000000, 4294}, {1, 3, 1431655765}, {2, 3, 2863311530}, {3, 3, 4294967296},
		{10, 5, 8589934592}, {10, 7, 6135667565}, {319, 1048576, 1306624}, {320, 1048576, 1310720}, {320, 1048575, 1310721},
		{320, 7, 196341362102}, {320, 3, 458129844906}, {320, 1, 1374389534720}, {319, 1, 1370094567424}, {1, 1, 4294967296},
	} {
		s, p := made(t, 1, 8*one)
		errnoIs(t, "Held", held(t, s, p, highest, c.size, c.rtt), api.OK)
		rateIs(t, "Held once", s, 8*one+c.step)
		errnoIs(t, "Held", held(t, s, p, highest, c.size, c.rtt), api.OK)
		rateIs(t, "Held twice", s, 8*one+2*c.step)
		errnoIs(t, "Held", held(t, s, p, 8*one+3*c.step-1, c.size, c.rtt), api.OK)
		rateIs(t, "Held a bit below a step", s, 8*one+3*c.step-1)
	}
}

// P19.1: the step goes by the size and the round trip of the call, not by those of one ahead of it.
func TestHeldStepIsTheCalls(t *testing.T) {
	s, p := made(t, one, one)
	for i, c := range []struct {
		size, rtt int
		want      fix.F
	}{{10, 5, 3}, {20, 5, 7}, {10, 10, 8}, {320, 1, 328}, {1, 1, 329}, {300, 100, 332}} {
		errnoIs(t, "Held", held(t, s, p, highest, c.size, c.rtt), api.OK)
		if s.Rate() != c.want*one {
			t.Fatalf("%d: %d", i, s.Rate())
		}
	}
}

// P19.1: where a step more is above all numbers it is Max, or the limit.
func TestHeldBeyondMax(t *testing.T) {
	const step = 320 * one
	for _, c := range []struct{ rate, limit, want fix.F }{
		{highest, highest, highest}, {highest, highest - 1, highest - 1}, {highest, 5 * one, 5 * one}, {highest, 0, 1},
		{highest - 1, highest, highest}, {highest - step + 1, highest, highest}, {highest - step + 1, highest - 1, highest - 1},
		{highest - step, highest, highest}, {highest - step, highest - 1, highest - 1},
		{highest - step - 1, highest, highest - 1}, {highest - step - 1, highest - 1, highest - 1}, {highest - step - 1, highest - 2, highest - 2},
	} {
		s, p := made(t, 1, c.rate)
		errnoIs(t, "Held", held(t, s, p, c.limit, 320, 1), api.OK)
		rateIs(t, "Held", s, c.want)
	}
	for _, c := range []struct{ rate, want fix.F }{{highest, highest}, {highest - 4095, highest}, {highest - 4096, highest}, {highest - 4097, highest - 1}} {
		s, p := made(t, 1, c.rate)
		errnoIs(t, "Held", held(t, s, p, highest, 1, 1048576), api.OK)
		rateIs(t, "Held", s, c.want)
	}
}

// P19.1, P19.2: once and again to the same limit, until it is just that and stays.
func TestHeldAgainAndAgain(t *testing.T) {
	for _, limit := range []fix.F{8 * one, 8*one + 1, 10*one - 1, 10 * one, 10*one + 1, 25 * one, 100*one + 7} {
		s, p := made(t, 2*one, 8*one)
		for n := 1; n <= 60; n++ {
			errnoIs(t, "Held", held(t, s, p, limit, 10, 5), api.OK)
			rateIs(t, "Held", s, min(limit, 8*one+fix.F(n)*2*one))
		}
		rateIs(t, "Held at the end", s, limit)
	}
}

// P19.1: from above it goes down to the limit at once, and stays.
func TestHeldFromAbove(t *testing.T) {
	for _, rate := range []fix.F{5*one + 1, 8 * one, 1 << 63, highest} {
		s, p := made(t, 2*one, rate)
		for range 5 {
			errnoIs(t, "Held", held(t, s, p, 5*one, 320, 1), api.OK)
			rateIs(t, "Held", s, 5*one)
		}
		errnoIs(t, "Held", held(t, s, p, one, 320, 1), api.OK)
		rateIs(t, "Held below the floor", s, 2*one)
	}
}

// P19.2: the floor is the least, also a floor of one bit, and one of all bits.
func TestHeldAtTheFloor(t *testing.T) {
	for _, floor := range floors {
		for _, limit := range []fix.F{0, floor / 2, floor - 1, floor} {
			s, p := made(t, floor, floor)
			errnoIs(t, "Held at the floor", held(t, s, p, limit, 320, 1), api.OK)
			rateIs(t, "Held at the floor", s, floor)
			s, p = made(t, floor, highest)
			errnoIs(t, "Held far above it", held(t, s, p, limit, 320, 1), api.OK)
			rateIs(t, "Held far above it", s, floor)
		}
	}
}

// P19.1, P19.2: all edges of the floor, the rate and the limit, by the least step, the greatest one, and one that is rounded.
func TestHeldAnyRates(t *testing.T) {
	for _, floor := range floors {
		for _, rate := range rates {
			if rate < floor {
				continue
			}
			for _, limit := range append([]fix.F{floor - 1, floor, floor.Add(1), rate - 1, rate, rate.Add(1), rate.Add(320 * one), rate.Add(4096)}, rates...) {
				for _, c := range [][2]int{{1, 1048576}, {320, 1}, {10, 7}} {
					s, p := made(t, floor, rate)
					errnoIs(t, "Held", held(t, s, p, limit, c[0], c[1]), api.OK)
				}
			}
		}
	}
}
