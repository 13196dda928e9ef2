package clr

import (
	"testing"

	"terrace/api"
	"terrace/fix"
)

// P18.1: a limit is from 1 to 2^20.
func TestNew(t *testing.T) {
	for _, limit := range append([]int{first, -1, 0, 1048577, last}, edges...) {
		if limit >= 1 && limit <= 1048576 {
			continue
		}
		if b, e := New(limit); b != nil || e != api.ErrRange {
			t.Fatalf("New(%d): %v, %d", limit, b, e)
		}
	}
	for _, limit := range []int{1, 2, 3, 20, 1048575, 1048576} {
		b, p := made(t, limit)
		holds(t, b, p)
		isTold(t, "CLR", b.CLR, Told{}, false)
		isTold(t, "Least", b.Least, Told{}, false)
		if b.Count() != 0 {
			t.Fatalf("Count: %d", b.Count())
		}
	}
}

// P18.1: no two books that New makes have anything in common.
func TestNewOnes(t *testing.T) {
	b, p := taken(t, 20, Told{1, 5, 10})
	c, q := made(t, 20)
	holds(t, c, q)
	take(t, c, q, Told{2, 6, 3}, 6)
	holds(t, b, p)
	clrIs(t, b, 1)
	clrIs(t, c, 2)
}

// P18.1: From is from 0 to MaxReceivers - 1.
func TestFrom(t *testing.T) {
	for _, from := range append([]int{first, -1, 64, last}, edges...) {
		if from >= 0 && from <= 63 {
			continue
		}
		b, p := taken(t, 20, Told{1, 5, 10})
		errnoIs(t, "Take", take(t, b, p, Told{from, 5, 1}, 5), api.ErrRange)
		isTold(t, "CLR", b.CLR, Told{1, 5, 10}, true)
	}
	for from := range 64 {
		b, p := made(t, 20)
		errnoIs(t, "Take", take(t, b, p, Told{from, 5, 1}, 5), api.OK)
		isTold(t, "CLR", b.CLR, Told{from, 5, 1}, true)
	}
}

// P18.1: Tick and now are from 0 to MaxTick, each alone and both.
func TestTicks(t *testing.T) {
	for _, limit := range []int{1, 2, 1048576} {
		for _, tick := range edges {
			for _, now := range edges {
				b, p := taken(t, limit, Told{1, 0, 10})
				want := api.OK
				switch {
				case tick < 0 || tick > 1099511627776 || now < 0 || now > 1099511627776:
					want = api.ErrRange
				case tick > now || tick < now-limit:
					want = api.ErrStale
				}
				errnoIs(t, "Take", take(t, b, p, Told{2, tick, 9}, now), want)
				if want == api.OK {
					clrIs(t, b, 2)
				} else {
					clrIs(t, b, 1)
				}
			}
		}
	}
}

// P18.1: ErrRange comes ahead of ErrStale: of each number out of range, where the report is stale, too.
func TestRangeAheadOfStale(t *testing.T) {
	for _, c := range []struct {
		from, tick, now int
		want            api.Errno
	}{
		{first, 5, 100, 11}, {-1, 5, 100, 11}, {64, 5, 100, 11}, {last, 5, 100, 11}, {0, 5, 100, 23}, {63, 5, 100, 23},
		{1, first, 100, 11}, {1, -1, 100, 11}, {1, -1, 0, 11}, {1, 1099511627777, 100, 11}, {1, last, 100, 11},
		{1, 0, first, 11}, {1, 0, -1, 11}, {1, 40, 1099511627777, 11}, {1, 40, last, 11},
		{1, first, last, 11}, {1, last, first, 11}, {1, first, first, 11}, {1, last, last, 11}, {1, -1, -1, 11},
		{1, 1099511627777, 1099511627777, 11}, {-1, -1, -1, 11}, {64, 1099511627777, 1099511627777, 11}, {first, first, first, 11}, {last, last, last, 11},
		{1, 49, 50, 23}, {1, 0, 0, 23}, {1, 0, 1099511627776, 23}, {1, 1099511627776, 0, 23}, {2, 0, 1099511627776, 23}, {2, 1099511627776, 0, 23},
	} {
		b, p := taken(t, 20, Told{1, 50, 10})
		errnoIs(t, "Take", take(t, b, p, Told{c.from, c.tick, 1}, c.now), c.want)
		isTold(t, "CLR", b.CLR, Told{1, 50, 10}, true)
		isTold(t, "Least", b.Least, Told{1, 50, 10}, true)
		errnoIs(t, "Take of one at MaxTick", take(t, b, p, Told{1, 1099511627776, 1}, 1099511627776), api.OK)
	}
}

// P18.1: limit ticks below now are taken in, one more is stale; so is one above now.
func TestLimit(t *testing.T) {
	for _, limit := range []int{1, 2, 3, 20, 1048575, 1048576} {
		for _, now := range []int{limit + 1, limit + 2, 2 * limit, 2097152, 1099511627775, 1099511627776} {
			for _, c := range []struct {
				tick int
				want api.Errno
			}{
				{0, 23}, {now - limit - 1, 23}, {now - limit, 0}, {now - limit + 1, 0}, {now - 1, 0}, {now, 0}, {now + 1, 23}, {now + limit, 23},
			} {
				if c.tick > 1099511627776 || c.tick == 0 && now <= limit+1 {
					continue
				}
				b, p := made(t, limit)
				errnoIs(t, "Take", take(t, b, p, Told{7, c.tick, 3}, now), c.want)
				b, p = taken(t, limit, Told{9, 0, 3})
				errnoIs(t, "Take of a further one", take(t, b, p, Told{7, c.tick, 3}, now), c.want)
			}
		}
		b, p := made(t, limit)
		errnoIs(t, "Take of tick 0 at 0", take(t, b, p, Told{7, 0, 3}, 0), api.OK)
		b, p = made(t, limit)
		errnoIs(t, "Take of tick 0 at the limit", take(t, b, p, Told{7, 0, 3}, limit), api.OK)
		b, p = made(t, limit)
		errnoIs(t, "Take of tick 0 behind it", take(t, b, p, Told{7, 0, 3}, limit+1), api.ErrStale)
	}
}

// P18.1: a tick below that of what the same receiver told last is stale, whichever of the two rates is lower, and whether it is the CLR or not.
func TestBelowItsLast(t *testing.T) {
	for _, from := range []int{1, 2} {
		for _, rate := range []fix.F{0, 9, 10, 11, 20, highest} {
			for _, c := range []struct {
				tick int
				want api.Errno
			}{{0, 23}, {31, 23}, {48, 23}, {49, 23}, {50, 0}, {51, 0}, {52, 0}, {53, 23}} {
				b, p := taken(t, 20, Told{1, 50, 10}, Told{2, 50, 20})
				errnoIs(t, "Take", take(t, b, p, Told{from, c.tick, rate}, 52), c.want)
				if got, _ := b.Of(from); (got == Told{from, c.tick, rate}) != (c.want == api.OK) {
					t.Fatalf("Of(%d): %+v", from, got)
				}
				if b.Count() != 2 {
					t.Fatalf("Count: %d", b.Count())
				}
			}
		}
	}
}

// P18.1: what another receiver told last hinders none, and of each its own last one counts.
func TestBelowAnothersLast(t *testing.T) {
	b, p := taken(t, 20, Told{1, 50, 10}, Told{2, 40, 20}, Told{0, 45, 20})
	errnoIs(t, "Take of 2", take(t, b, p, Told{2, 39, 1}, 50), api.ErrStale)
	errnoIs(t, "Take of 0", take(t, b, p, Told{0, 44, 1}, 50), api.ErrStale)
	errnoIs(t, "Take of 1", take(t, b, p, Told{1, 49, 1}, 50), api.ErrStale)
	errnoIs(t, "Take of 3", take(t, b, p, Told{3, 30, 20}, 50), api.OK)
	errnoIs(t, "Take of 2", take(t, b, p, Told{2, 41, 20}, 50), api.OK)
	errnoIs(t, "Take of 2", take(t, b, p, Told{2, 40, 20}, 50), api.ErrStale)
	errnoIs(t, "Take of 0", take(t, b, p, Told{0, 45, 20}, 50), api.OK)
	clrIs(t, b, 1)
}

// P18.1: now may go back, as long as no report does.
func TestNowGoesBack(t *testing.T) {
	b, p := made(t, 20)
	errnoIs(t, "Take", take(t, b, p, Told{1, 40, 10}, 60), api.OK)
	errnoIs(t, "Take", take(t, b, p, Told{1, 40, 9}, 40), api.OK)
	errnoIs(t, "Take", take(t, b, p, Told{2, 5, 10}, 5), api.OK)
	errnoIs(t, "Take", take(t, b, p, Told{1, 39, 9}, 39), api.ErrStale)
	errnoIs(t, "Take", take(t, b, p, Told{1, 40, 9}, 39), api.ErrStale)
}

// P18.1: what is refused changes neither the CLR nor anything that is known.
func TestRefused(t *testing.T) {
	b, p := taken(t, 20, Told{1, 50, 10}, Told{2, 51, 8}, Told{3, 51, 9})
	for _, c := range []struct {
		r    Told
		now  int
		want api.Errno
	}{
		{Told{-1, 51, 0}, 51, 11}, {Told{64, 51, 0}, 51, 11}, {Told{1, -1, 0}, 51, 11}, {Told{3, 51, 0}, -1, 11}, {Told{3, 51, 0}, 1099511627777, 11},
		{Told{1, 49, 0}, 51, 23}, {Told{2, 50, 0}, 51, 23}, {Told{3, 52, 0}, 51, 23}, {Told{3, 51, 0}, 72, 23}, {Told{4, 51, 0}, 72, 23}, {Told{4, 52, 0}, 51, 23},
		{Told{2, 51, highest}, 72, 23}, {Told{2, 50, highest}, 51, 23},
	} {
		errnoIs(t, "Take", take(t, b, p, c.r, c.now), c.want)
		isTold(t, "CLR", b.CLR, Told{2, 51, 8}, true)
		isTold(t, "Least", b.Least, Told{2, 51, 8}, true)
		if b.Count() != 3 {
			t.Fatalf("Count: %d", b.Count())
		}
	}
	if len(p.ever) != 3 {
		t.Fatalf("the model took in %d", len(p.ever))
	}
}
