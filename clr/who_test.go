package clr

import (
	"testing"

	"terrace/api"
	"terrace/fix"
)

// P18.1, P18.2: the chapter's examples.
func TestExamples(t *testing.T) {
	b, p := made(t, 20)
	for _, c := range []struct {
		r   Told
		clr int
	}{{Told{1, 5, 10}, 1}, {Told{2, 6, 8}, 2}, {Told{2, 7, 20}, 2}, {Told{3, 8, 19}, 3}} {
		errnoIs(t, "Take", take(t, b, p, c.r, c.r.Tick), api.OK)
		isTold(t, "CLR", b.CLR, c.r, true)
		clrIs(t, b, c.clr)
	}
}

// P18.1: who told first is the CLR, at any rate, whoever it is.
func TestFirstOne(t *testing.T) {
	for _, rate := range rates {
		for _, from := range []int{0, 1, 31, 62, 63} {
			b, p := made(t, 1)
			errnoIs(t, "Take", take(t, b, p, Told{from, 8, rate}, 9), api.OK)
			isTold(t, "CLR", b.CLR, Told{from, 8, rate}, true)
		}
	}
}

// P18.1: the CLR's own report leaves it the CLR, lower, the same or higher, and it is what others are held against from then on.
func TestItsOwnReport(t *testing.T) {
	for _, rate := range []fix.F{0, 1, 9, 10, 11, 29, 30, 31, highest} {
		b, p := taken(t, 20, Told{4, 5, 10}, Told{2, 5, 30}, Told{6, 5, 30})
		errnoIs(t, "Take", take(t, b, p, Told{4, 6, rate}, 6), api.OK)
		isTold(t, "CLR", b.CLR, Told{4, 6, rate}, true)
		if rate < highest {
			errnoIs(t, "Take of a bit more", take(t, b, p, Told{2, 7, rate + 1}, 7), api.OK)
			isTold(t, "CLR", b.CLR, Told{4, 6, rate}, true)
		}
		errnoIs(t, "Take of the same", take(t, b, p, Told{2, 7, rate}, 7), api.OK)
		isTold(t, "CLR", b.CLR, Told{4, 6, rate}, true)
		if rate > 0 {
			errnoIs(t, "Take of a bit less", take(t, b, p, Told{6, 7, rate - 1}, 7), api.OK)
			isTold(t, "CLR", b.CLR, Told{6, 7, rate - 1}, true)
		}
	}
}

// P18.1: another one's report makes it the CLR only below the CLR's last rate, not at the same one.
func TestAnothersReport(t *testing.T) {
	for _, rate := range rates {
		for _, other := range append([]fix.F{rate - min(rate, 1), rate + min(1, highest-rate)}, rates...) {
			for _, from := range []int{0, 29, 31, 63} {
				b, p := taken(t, 20, Told{30, 5, rate})
				errnoIs(t, "Take", take(t, b, p, Told{from, 5, other}, 5), api.OK)
				if other < rate {
					isTold(t, "CLR", b.CLR, Told{from, 5, other}, true)
				} else {
					isTold(t, "CLR", b.CLR, Told{30, 5, rate}, true)
				}
			}
		}
	}
}

// P18.1: the CLR's last one counts, not its least one, nor the least that is known, nor what others told ahead.
func TestHeldAgainstItsLast(t *testing.T) {
	b, p := taken(t, 20, Told{1, 5, 10}, Told{2, 5, 15}, Told{1, 6, 40})
	clrIs(t, b, 1)
	isTold(t, "Least", b.Least, Told{2, 5, 15}, true)
	errnoIs(t, "Take", take(t, b, p, Told{3, 6, 40}, 6), api.OK)
	clrIs(t, b, 1)
	errnoIs(t, "Take", take(t, b, p, Told{3, 6, 39}, 6), api.OK)
	clrIs(t, b, 3)
	errnoIs(t, "Take of the one ahead of it", take(t, b, p, Told{1, 6, 39}, 6), api.OK)
	clrIs(t, b, 3)
	errnoIs(t, "Take of the one ahead of it", take(t, b, p, Told{1, 6, 38}, 6), api.OK)
	clrIs(t, b, 1)
}

// P18.1: one that told a lower rate ahead isn't the CLR before it tells again.
func TestOnlyWhoTells(t *testing.T) {
	b, p := taken(t, 20, Told{1, 5, 10}, Told{2, 5, 11}, Told{3, 5, 12}, Told{1, 6, 100})
	isTold(t, "CLR", b.CLR, Told{1, 6, 100}, true)
	errnoIs(t, "Take", take(t, b, p, Told{3, 6, 100}, 6), api.OK)
	isTold(t, "CLR", b.CLR, Told{1, 6, 100}, true)
	errnoIs(t, "Take", take(t, b, p, Told{2, 6, 99}, 6), api.OK)
	isTold(t, "CLR", b.CLR, Told{2, 6, 99}, true)
}

// P18.1: a report may be older than the CLR's last one, and an old CLR stays one until time passes.
func TestOlderReports(t *testing.T) {
	b, p := taken(t, 20, Told{1, 50, 10})
	errnoIs(t, "Take", take(t, b, p, Told{2, 30, 9}, 50), api.OK)
	isTold(t, "CLR", b.CLR, Told{2, 30, 9}, true)
	errnoIs(t, "Take far behind", take(t, b, p, Told{1, 1000000, 9}, 1000000), api.OK)
	isTold(t, "CLR", b.CLR, Told{2, 30, 9}, true)
	errnoIs(t, "Take far behind", take(t, b, p, Told{2, 1000000, 90}, 1000000), api.OK)
	isTold(t, "CLR", b.CLR, Told{2, 1000000, 90}, true)
}

// P18.1: behind the CLR was forgotten, who tells next is the CLR, at any rate, also one that had told lower ones.
func TestBehindItWasForgotten(t *testing.T) {
	for _, passes := range []bool{false, true} {
		for _, r := range []Told{{1, 50, highest}, {1, 50, 0}, {2, 50, 20}, {2, 50, highest}, {3, 50, 20}, {3, 50, highest}, {3, 50, 0}} {
			b, p := taken(t, 20, Told{1, 5, 10}, Told{2, 20, 20})
			if passes {
				is(t, "Pass", pass(t, b, p, 26), true)
			} else {
				is(t, "Leave", leave(t, b, p, 1), true)
			}
			clrIs(t, b, -1)
			isTold(t, "Least", b.Least, Told{2, 20, 20}, true)
			errnoIs(t, "Take of a stale one", take(t, b, p, Told{2, 19, 0}, 20), api.ErrStale)
			errnoIs(t, "Take of a wrong one", take(t, b, p, Told{64, 20, 0}, 20), api.ErrRange)
			clrIs(t, b, -1)
			errnoIs(t, "Take", take(t, b, p, r, 50), api.OK)
			isTold(t, "CLR", b.CLR, r, true)
		}
	}
}

// P18.1: at rates of 0 none other can be the CLR; from Max on, each below it is.
func TestEndsOfRates(t *testing.T) {
	b, p := taken(t, 20, Told{1, 5, 0})
	for r := range 64 {
		errnoIs(t, "Take", take(t, b, p, Told{r, 5, 0}, 5), api.OK)
		clrIs(t, b, 1)
	}
	b, p = taken(t, 20, Told{1, 5, fix.Max})
	for r := range 64 {
		errnoIs(t, "Take", take(t, b, p, Told{r, 5, fix.Max}, 5), api.OK)
		clrIs(t, b, 1)
	}
	for r := range 64 {
		errnoIs(t, "Take", take(t, b, p, Told{r, 5, fix.Max - 1 - fix.F(r)}, 5), api.OK)
		clrIs(t, b, r)
	}
}
