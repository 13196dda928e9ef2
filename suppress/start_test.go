package suppress

import (
	"testing"

	"terrace/api"
	"terrace/fix"
)

// noTicks are numbers that are no ticks, each to stand for a number, now and a wait.
var noTicks = []int{
	first, first + 1, -api.MaxTick - 1, -api.MaxTick, -1 << 32, -2, -1, api.MaxTick + 1, api.MaxTick + 2, 2 * api.MaxTick, 1 << 62, last - 1, last,
}

// P17.2, P17.3: a new one is idle, has the number -1 and no own rate, and is not due.
func TestNew(t *testing.T) {
	r, p := made(t)
	tells(t, r, 0, false, -1, 0)
	for _, n := range edges {
		is(t, "Echo of a new one", echo(t, r, p, n, 0), false)
		is(t, "Fire of a new one", fire(t, r, p, n), false)
		urge(t, r, p, n)
	}
	errnoIs(t, "Urge of a new one", r.Urge(5), api.ErrState)
	tells(t, r, 0, false, -1, 0)
}

// P17.2: one new one goes its own way beside another one.
func TestTwoNewOnes(t *testing.T) {
	a, p := made(t)
	b, q := made(t)
	start(t, a, p, 3, 10, 5, 7)
	tells(t, b, 0, false, -1, 0)
	start(t, b, q, 0, 20, 6, 8)
	is(t, "Fire", fire(t, b, q, 26), true)
	tells(t, a, 15, true, 3, 7)
	tells(t, b, 0, false, 0, 8)
}

// P17.2: it runs from Start on, due so many ticks behind.
func TestStart(t *testing.T) {
	for _, c := range []struct {
		number, now, wait int
		own               fix.F
		due               int
	}{
		{0, 0, 0, 0, 0},
		{0, 0, 1, 0, 1},
		{0, 1, 0, 1, 1},
		{3, 10, 5, fix.Of(8), 15},
		{3, 1, 1 << 20, one, 1<<20 + 1},
		{1, 1 << 32, 1 << 33, fix.Max, 3 << 32},
		{api.MaxTick, 0, 7, fix.Max, 7},
		{api.MaxTick - 1, 7, 0, fix.Max - 1, 7},
		{7, api.MaxTick, 0, 0, api.MaxTick},
		{7, api.MaxTick, 1, 0, api.MaxTick + 1},
		{7, 0, api.MaxTick, 0, api.MaxTick},
		{7, 1, api.MaxTick, 1 << 63, api.MaxTick + 1},
		{api.MaxTick, api.MaxTick, api.MaxTick, fix.Max, 2 * api.MaxTick},
	} {
		r, p := made(t)
		errnoIs(t, "Start", start(t, r, p, c.number, c.now, c.wait, c.own), api.OK)
		tells(t, r, c.due, true, c.number, c.own)
		is(t, "Fire ahead of the tick", fire(t, r, p, c.due-1), false)
		tells(t, r, c.due, true, c.number, c.own)
		is(t, "Fire at the tick", fire(t, r, p, c.due), true)
		tells(t, r, 0, false, c.number, c.own)
	}
}

// P17.2: number, now and wait each from 0 to MaxTick, else ErrRange, idle or not, and nothing is changed.
func TestNoTicks(t *testing.T) {
	r, p := made(t)
	refusesNoTicks(t, r, p)
	r, p = started(t, 77)
	refusesNoTicks(t, r, p)
	tells(t, r, 120, true, 5, 77)
	is(t, "Fire", fire(t, r, p, 120), true)
	refusesNoTicks(t, r, p)
	tells(t, r, 0, false, 5, 77)
}

func refusesNoTicks(t *testing.T, r *Round, p *plain) {
	t.Helper()
	for _, n := range noTicks {
		for _, right := range []int{6, 7, 1000, api.MaxTick} {
			errnoIs(t, "Start with that number", start(t, r, p, n, right, 1, 9), api.ErrRange)
			errnoIs(t, "Start at that tick", start(t, r, p, right, n, 1, 9), api.ErrRange)
			errnoIs(t, "Start with that wait", start(t, r, p, right, 1, n, 9), api.ErrRange)
			errnoIs(t, "Start, the wait alone right", start(t, r, p, n, n, right, 9), api.ErrRange)
			errnoIs(t, "Start, the tick alone right", start(t, r, p, n, right, n, 9), api.ErrRange)
			errnoIs(t, "Start, the number alone right", start(t, r, p, right, n, n, 9), api.ErrRange)
			errnoIs(t, "Start, nothing right", start(t, r, p, n, n, n, 9), api.ErrRange)
		}
	}
}

// P17.2: a tick and a wait of which one is none are refused, though their sum is one.
func TestNoTicksThoughTheirSumIs(t *testing.T) {
	r, p := started(t, 77)
	for _, c := range [][2]int{{-1, 2}, {2, -1}, {-5, 5}, {api.MaxTick + 1, -1}, {-1, api.MaxTick + 1}, {first, last}, {last, first}, {last, last}, {first, first}, {last, 1}} {
		errnoIs(t, "Start", start(t, r, p, 6, c[0], c[1], 9), api.ErrRange)
		tells(t, r, 120, true, 5, 77)
	}
}

// P17.2: a number that isn't above the round's is ErrState, while it runs and while it is idle, and nothing is changed.
func TestNumbersRise(t *testing.T) {
	running, p := started(t, 77)
	firedOne, q := started(t, 77)
	is(t, "Fire", fire(t, firedOne, q, 120), true)
	hushedOne, s := started(t, 77)
	is(t, "Echo", echo(t, hushedOne, s, 5, 3), true)
	for number := range 6 {
		errnoIs(t, "Start while it runs", start(t, running, p, number, 1, 1, 9), api.ErrState)
		errnoIs(t, "Start behind Fire", start(t, firedOne, q, number, 1, 1, 9), api.ErrState)
		errnoIs(t, "Start behind Echo", start(t, hushedOne, s, number, 1, 1, 9), api.ErrState)
		tells(t, running, 120, true, 5, 77)
		tells(t, firedOne, 0, false, 5, 77)
		tells(t, hushedOne, 0, false, 5, 77)
	}
	for _, c := range []struct {
		r *Round
		p *plain
	}{{running, p}, {firedOne, q}, {hushedOne, s}} {
		errnoIs(t, "Start with the next number", start(t, c.r, c.p, 6, 1, 1, 9), api.OK)
		tells(t, c.r, 2, true, 6, 9)
		errnoIs(t, "Start with the greatest number", start(t, c.r, c.p, api.MaxTick, 2, 2, 10), api.OK)
		tells(t, c.r, 4, true, api.MaxTick, 10)
		errnoIs(t, "Start with it again", start(t, c.r, c.p, api.MaxTick, 2, 2, 10), api.ErrState)
		errnoIs(t, "Start with none", start(t, c.r, c.p, api.MaxTick+1, 2, 2, 10), api.ErrRange)
		tells(t, c.r, 4, true, api.MaxTick, 10)
	}
}

// P17.2: ErrRange is told ahead of ErrState.
func TestRangeAheadOfState(t *testing.T) {
	r, p := started(t, 77)
	for _, number := range []int{0, 4, 5} {
		for _, n := range noTicks {
			errnoIs(t, "Start at no tick", start(t, r, p, number, n, 1, 9), api.ErrRange)
			errnoIs(t, "Start with no wait", start(t, r, p, number, 1, n, 9), api.ErrRange)
		}
	}
	for _, n := range noTicks {
		errnoIs(t, "Urge at no tick while it runs", urge(t, r, p, n), api.ErrRange)
	}
	is(t, "Fire", fire(t, r, p, 120), true)
	for _, n := range noTicks {
		errnoIs(t, "Urge at no tick while it is idle", urge(t, r, p, n), api.ErrRange)
	}
	errnoIs(t, "Urge while it is idle", urge(t, r, p, 120), api.ErrState)
}

// P17.2, P17.3: the next Start ends the round that runs: nothing of it is left, neither its tick, earlier or later, nor its own rate.
func TestNextStart(t *testing.T) {
	for _, wait := range []int{0, 1, 19, 20, 21, 1000} {
		r, p := started(t, fix.Of(9))
		errnoIs(t, "Start", start(t, r, p, 6, 100, wait, fix.Of(4)), api.OK)
		tells(t, r, 100+wait, true, 6, fix.Of(4))
		is(t, "Echo of the round ahead", echo(t, r, p, 5, 0), false)
		is(t, "Echo that was low enough for it", echo(t, r, p, 6, fix.Of(9)), false)
		is(t, "Fire ahead of the tick", fire(t, r, p, 99+wait), false)
		is(t, "Fire at the tick", fire(t, r, p, 100+wait), true)
		is(t, "Fire once more", fire(t, r, p, last), false)
		tells(t, r, 0, false, 6, fix.Of(4))
	}
}

// P17.2: an urged round's tick isn't kept for the next one.
func TestNextStartOfAnUrgedOne(t *testing.T) {
	r, p := started(t, 77)
	errnoIs(t, "Urge", urge(t, r, p, 3), api.OK)
	errnoIs(t, "Start", start(t, r, p, 6, 200, 50, 77), api.OK)
	tells(t, r, 250, true, 6, 77)
	is(t, "Fire", fire(t, r, p, 249), false)
	is(t, "Fire", fire(t, r, p, 250), true)
}

// P17.2: a round may be started at a tick ahead of those at which others were.
func TestEarlierTicks(t *testing.T) {
	r, p := made(t)
	for number, now := range []int{1000, 10, 500, 0, api.MaxTick, 3} {
		errnoIs(t, "Start", start(t, r, p, number, now, 4, fix.F(number)), api.OK)
		tells(t, r, now+4, true, number, fix.F(number))
		if number%2 == 0 {
			is(t, "Fire", fire(t, r, p, now+4), true)
		}
	}
}
