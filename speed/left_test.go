package speed

import (
	"testing"

	"terrace/api"
	"terrace/fix"
)

// P19.1, P19.2: half of itself, rounded down, or the floor.
func TestLeft(t *testing.T) {
	const floor = 2 * one
	for _, c := range []struct{ rate, want fix.F }{
		{floor, floor}, {floor + 1, floor}, {2*floor - 1, floor}, {2 * floor, floor}, {2*floor + 1, floor}, {2*floor + 2, floor + 1},
		{2*floor + 3, floor + 1}, {8 * one, 4 * one}, {8*one + 1, 4 * one}, {9 * one, 9 * one / 2},
		{1 << 63, 1 << 62}, {1<<63 + 1, 1 << 62}, {highest - 1, 1<<63 - 1}, {highest, 1<<63 - 1},
	} {
		s, p := made(t, floor, c.rate)
		left(t, s, p)
		rateIs(t, "Left", s, c.want)
	}
}

// P19.1, P19.2: floors of odd bits, and the ends.
func TestLeftByFloors(t *testing.T) {
	for _, c := range []struct{ floor, rate, want fix.F }{
		{1, 1, 1}, {1, 2, 1}, {1, 3, 1}, {1, 4, 2}, {1, 5, 2}, {1, highest, 1<<63 - 1},
		{2, 2, 2}, {2, 3, 2}, {2, 4, 2}, {2, 5, 2}, {2, 6, 3}, {2, 7, 3}, {3, 5, 3}, {3, 6, 3}, {3, 7, 3}, {3, 8, 4},
		{1<<63 - 1, highest - 2, 1<<63 - 1}, {1<<63 - 1, highest, 1<<63 - 1}, {1 << 63, highest, 1 << 63}, {1<<63 - 2, highest, 1<<63 - 1},
		{highest - 1, highest - 1, highest - 1}, {highest - 1, highest, highest - 1}, {highest, highest, highest},
	} {
		s, p := made(t, c.floor, c.rate)
		left(t, s, p)
		rateIs(t, "Left", s, c.want)
	}
}

// P19.1, P19.2: once and again until the floor, and no further.
func TestLeftAgainAndAgain(t *testing.T) {
	s, p := made(t, 1, highest)
	for n := 1; n <= 63; n++ {
		left(t, s, p)
		rateIs(t, "Left", s, highest>>n)
	}
	for range 3 {
		left(t, s, p)
		rateIs(t, "Left at the floor", s, 1)
	}
	s, p = made(t, 3, 100)
	for _, want := range []fix.F{50, 25, 12, 6, 3, 3, 3} {
		left(t, s, p)
		rateIs(t, "Left", s, want)
	}
}

// P19.1, P19.2: all edges of the floor and the rate, down to the floor.
func TestLeftAnyRates(t *testing.T) {
	for _, floor := range floors {
		for _, rate := range append([]fix.F{floor, floor.Add(1), floor.Add(floor) - 1, floor.Add(floor), floor.Add(floor).Add(1)}, rates...) {
			if rate < floor {
				continue
			}
			s, p := made(t, floor, rate)
			for range 65 {
				left(t, s, p)
			}
			rateIs(t, "Left at the end", s, floor)
		}
	}
}

// P19.1: from the floor it rises again by each way there is.
func TestUpFromTheFloor(t *testing.T) {
	s, p := made(t, 2*one, 2*one)
	left(t, s, p)
	errnoIs(t, "Held", held(t, s, p, highest, 10, 5), api.OK)
	rateIs(t, "Held", s, 4*one)
	left(t, s, p)
	left(t, s, p)
	free(t, s, p, highest, true)
	rateIs(t, "Free", s, 4*one)
	free(t, s, p, 0, true)
	rateIs(t, "Free of 0", s, 2*one)
	free(t, s, p, 2*one, true)
	rateIs(t, "Free", s, 4*one)
}
