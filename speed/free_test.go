package speed

import (
	"testing"

	"terrace/fix"
)

// P19.1: with nothing reported the rate stays, whatever the number beside it is.
func TestFreeWithoutReports(t *testing.T) {
	for _, floor := range floors {
		for _, rate := range rates {
			if rate < floor {
				continue
			}
			s, p := made(t, floor, rate)
			for _, least := range append([]fix.F{floor / 2, floor, rate / 2, rate}, rates...) {
				free(t, s, p, least, false)
				rateIs(t, "Free of nothing", s, rate)
			}
		}
	}
}

// P19.1, P19.2: the lesser one of both doubles, or the floor.
func TestFreeOfReports(t *testing.T) {
	const floor, rate = 2 * one, 8 * one
	for _, c := range []struct{ least, want fix.F }{
		{0, floor}, {1, floor}, {one - 1, floor}, {one, floor}, {one + 1, floor + 2}, {floor, 2 * floor},
		{3 * one, 6 * one}, {rate/2 - 1, rate - 2}, {rate / 2, rate}, {rate/2 + 1, rate + 2},
		{rate - 1, 2*rate - 2}, {rate, 2 * rate}, {rate + 1, 2 * rate}, {2 * rate, 2 * rate},
		{1<<63 - 1, 2 * rate}, {1 << 63, 2 * rate}, {1<<63 + 1, 2 * rate}, {highest, 2 * rate},
	} {
		s, p := made(t, floor, rate)
		free(t, s, p, c.least, true)
		rateIs(t, "Free", s, c.want)
	}
}

// P19.1: of a double above all numbers Max is what there is.
func TestFreeBeyondMax(t *testing.T) {
	for _, c := range []struct{ rate, least, want fix.F }{
		{1<<63 - 1, highest, highest - 1}, {1 << 63, highest, highest}, {1<<63 + 1, highest, highest}, {highest, highest, highest},
		{1<<63 - 1, 1 << 63, highest - 1}, {1 << 63, 1 << 63, highest}, {1<<63 + 5, 1<<63 + 9, highest},
		{highest, 1 << 63, highest}, {highest, 1<<63 - 1, highest - 1}, {highest, 1 << 62, 1 << 63}, {highest, 1, 2}, {highest, 0, 1},
		{1 << 62, highest, 1 << 63}, {1, highest, 2}, {1, 1 << 63, 2}, {2, 1<<63 + 1, 4},
	} {
		s, p := made(t, 1, c.rate)
		free(t, s, p, c.least, true)
		rateIs(t, "Free", s, c.want)
	}
}

// P19.1: again and again: twice each time, while the reports rise; else it stays at twice the report.
func TestFreeAgainAndAgain(t *testing.T) {
	s, p := made(t, 1, 3)
	want := fix.F(3)
	for range 62 {
		want *= 2
		free(t, s, p, highest, true)
		rateIs(t, "Free", s, want)
	}
	for range 3 {
		free(t, s, p, highest, true)
		rateIs(t, "Free at the end", s, highest)
	}
	s, p = made(t, one, 8*one)
	for _, want := range []fix.F{16 * one, 32 * one, 40 * one, 40 * one, 40 * one} {
		free(t, s, p, 20*one, true)
		rateIs(t, "Free", s, want)
	}
	free(t, s, p, 20*one-1, true)
	rateIs(t, "Free", s, 40*one-2)
}

// P19.2: the floor is the least, also a floor of one bit, and one of all bits.
func TestFreeAtTheFloor(t *testing.T) {
	for _, floor := range floors {
		for _, least := range []fix.F{0, floor / 4, (floor - 1) / 2, floor / 2} {
			s, p := made(t, floor, floor)
			free(t, s, p, least, true)
			rateIs(t, "Free at the floor", s, floor)
			s, p = made(t, floor, highest)
			free(t, s, p, least, true)
			rateIs(t, "Free far above it", s, floor)
		}
	}
	s, p := made(t, highest, highest)
	free(t, s, p, highest, true)
	rateIs(t, "Free of all", s, highest)
}

// P19.1, P19.2: all edges of the floor, the rate and what was reported.
func TestFreeAnyRates(t *testing.T) {
	for _, floor := range floors {
		for _, rate := range rates {
			if rate < floor {
				continue
			}
			beside := []fix.F{floor/2 - 1, floor / 2, floor/2 + 1, floor, floor.Add(1), rate/2 - 1, rate / 2, rate/2 + 1, rate - 1, rate, rate.Add(1)}
			for _, least := range append(beside, rates...) {
				s, p := made(t, floor, rate)
				free(t, s, p, least, true)
			}
		}
	}
}
