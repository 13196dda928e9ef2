package clr

import (
	"testing"

	"terrace/api"
)

// P18.2: of one of whom nothing is known, Leave does nothing, whatever number it has.
func TestLeaveOfAnUnknownOne(t *testing.T) {
	for _, r := range append([]int{first, -1, 0, 1, 63, 64, last}, edges...) {
		b, p := made(t, 20)
		is(t, "Leave of an empty book", leave(t, b, p, r), false)
		b, p = taken(t, 20, Told{30, 5, 10})
		is(t, "Leave", leave(t, b, p, r), false)
		isTold(t, "CLR", b.CLR, Told{30, 5, 10}, true)
		is(t, "Leave of the CLR", leave(t, b, p, 30), true)
		is(t, "Leave without a CLR", leave(t, b, p, r), false)
	}
}

// P18.2: of the CLR, Leave forgets it, and none other is the CLR then.
func TestLeaveOfTheCLR(t *testing.T) {
	b, p := taken(t, 20, Told{1, 5, 10}, Told{2, 5, 11}, Told{3, 5, 10})
	is(t, "Leave", leave(t, b, p, 1), true)
	clrIs(t, b, -1)
	if _, e := b.Of(1); e != api.ErrNone || b.Count() != 2 {
		t.Fatalf("Of(1): %d, Count: %d", e, b.Count())
	}
	is(t, "Leave once again", leave(t, b, p, 1), false)
	is(t, "Leave of another one", leave(t, b, p, 3), false)
	is(t, "Leave of the last one", leave(t, b, p, 2), false)
	isTold(t, "Least", b.Least, Told{}, false)
}

// P18.2: of another one, Leave forgets it, and the CLR stays.
func TestLeaveOfAnother(t *testing.T) {
	b, p := taken(t, 20, Told{1, 5, 10}, Told{2, 5, 11}, Told{0, 5, 12})
	is(t, "Leave of 2", leave(t, b, p, 2), false)
	isTold(t, "CLR", b.CLR, Told{1, 5, 10}, true)
	is(t, "Leave of 2 once again", leave(t, b, p, 2), false)
	is(t, "Leave of 0", leave(t, b, p, 0), false)
	isTold(t, "CLR", b.CLR, Told{1, 5, 10}, true)
	if b.Count() != 1 {
		t.Fatalf("Count: %d", b.Count())
	}
	is(t, "Leave of 1", leave(t, b, p, 1), true)
}

// P18.2: of one that was the CLR, but isn't any more, Leave tells so.
func TestLeaveOfAFormerOne(t *testing.T) {
	b, p := taken(t, 20, Told{1, 5, 10}, Told{2, 5, 9})
	is(t, "Leave of the former one", leave(t, b, p, 1), false)
	isTold(t, "CLR", b.CLR, Told{2, 5, 9}, true)
	is(t, "Leave of the CLR", leave(t, b, p, 2), true)
}

// P18.1, P18.2: what it told is forgotten: a lower tick is taken in then, and what is stale for others stays so.
func TestForgotten(t *testing.T) {
	for _, r := range []int{1, 2} {
		b, p := taken(t, 20, Told{1, 50, 10}, Told{2, 50, 11})
		errnoIs(t, "Take ahead of Leave", take(t, b, p, Told{r, 49, 12}, 50), api.ErrStale)
		is(t, "Leave", leave(t, b, p, r), r == 1)
		errnoIs(t, "Take of the other one", take(t, b, p, Told{3 - r, 49, 12}, 50), api.ErrStale)
		errnoIs(t, "Take too old", take(t, b, p, Told{r, 29, 12}, 50), api.ErrStale)
		errnoIs(t, "Take", take(t, b, p, Told{r, 30, 12}, 50), api.OK)
		errnoIs(t, "Take below that", take(t, b, p, Told{r, 29, 12}, 49), api.ErrStale)
		clrIs(t, b, 1)
	}
	b, p := taken(t, 20, Told{1, 50, 10}, Told{2, 60, 11})
	is(t, "Pass", pass(t, b, p, 71), true)
	errnoIs(t, "Take of 2", take(t, b, p, Told{2, 59, 12}, 60), api.ErrStale)
	errnoIs(t, "Take of 1", take(t, b, p, Told{1, 0, 12}, 3), api.OK)
	isTold(t, "CLR", b.CLR, Told{1, 0, 12}, true)
}

// P18.2: Pass without a CLR does nothing, at any time.
func TestPassWithout(t *testing.T) {
	for _, now := range edges {
		b, p := made(t, 20)
		is(t, "Pass of an empty book", pass(t, b, p, now), false)
		b, p = taken(t, 1, Told{1, 5, 10}, Told{2, 5, 11})
		is(t, "Leave", leave(t, b, p, 1), true)
		is(t, "Pass without a CLR", pass(t, b, p, now), false)
		isTold(t, "Least", b.Least, Told{2, 5, 11}, true)
	}
}

// P18.2: limit ticks behind what the CLR told last it stays, one more and it is forgotten; any number is a time here.
func TestPass(t *testing.T) {
	for _, limit := range []int{1, 2, 20, 1048575, 1048576} {
		for _, tick := range []int{0, 1, 5, 1099511627775, 1099511627776} {
			for _, now := range append([]int{tick - limit, tick - 1, tick, tick + 1, tick + limit - 1, tick + limit, tick + limit + 1, tick + limit + 2}, edges...) {
				b, p := taken(t, limit, Told{1, tick, 10}, Told{2, tick, 11})
				gone := now >= tick+limit+1
				is(t, "Pass", pass(t, b, p, now), gone)
				if gone {
					clrIs(t, b, -1)
					isTold(t, "Least", b.Least, Told{2, tick, 11}, true)
				} else {
					isTold(t, "CLR", b.CLR, Told{1, tick, 10}, true)
				}
				is(t, "Pass once again", pass(t, b, p, now), false)
			}
		}
	}
}

// P18.2: the least and the greatest time, written out.
func TestPassAtTheEnds(t *testing.T) {
	for _, c := range []struct {
		now  int
		want bool
	}{
		{first, false}, {first + 1, false}, {-1, false}, {0, false}, {5, false}, {25, false}, {26, true}, {1099511627776, true}, {1099511627777, true}, {last - 1, true}, {last, true},
	} {
		b, p := taken(t, 20, Told{63, 5, 10})
		is(t, "Pass", pass(t, b, p, c.now), c.want)
	}
	b, p := taken(t, 1048576, Told{63, 1099511627776, 10})
	is(t, "Pass at MaxTick and the limit", pass(t, b, p, 1099512676352), false)
	is(t, "Pass one behind it", pass(t, b, p, 1099512676353), true)
}

// P18.2: Pass goes by the CLR's tick, not by the time at which it was taken in, nor by others' ticks.
func TestPassGoesByTheTick(t *testing.T) {
	b, p := made(t, 20)
	errnoIs(t, "Take", take(t, b, p, Told{1, 50, 10}, 70), api.OK)
	errnoIs(t, "Take", take(t, b, p, Told{2, 70, 10}, 70), api.OK)
	is(t, "Pass at the limit", pass(t, b, p, 70), false)
	is(t, "Pass behind it", pass(t, b, p, 71), true)
	b, p = taken(t, 20, Told{1, 50, 10}, Told{2, 20, 10})
	is(t, "Pass, another one being old", pass(t, b, p, 70), false)
	errnoIs(t, "Take of what moves it on", take(t, b, p, Told{1, 60, 10}, 70), api.OK)
	is(t, "Pass", pass(t, b, p, 80), false)
	is(t, "Pass", pass(t, b, p, 81), true)
}

// P18.2: only the CLR is forgotten, however old the others are.
func TestPassForgetsTheCLRAlone(t *testing.T) {
	b, p := taken(t, 1, Told{0, 5, 10}, Told{2, 0, 11}, Told{1, 4, 10}, Told{63, 0, 12})
	is(t, "Pass", pass(t, b, p, last), true)
	clrIs(t, b, -1)
	for _, c := range []struct {
		r int
		e api.Errno
	}{{0, 14}, {1, 0}, {2, 0}, {63, 0}} {
		_, e := b.Of(c.r)
		errnoIs(t, "Of", e, c.e)
	}
	if b.Count() != 3 {
		t.Fatalf("Count: %d", b.Count())
	}
	is(t, "Pass once again", pass(t, b, p, last), false)
	is(t, "Leave of who was the CLR", leave(t, b, p, 0), false)
}
