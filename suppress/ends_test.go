package suppress

import (
	"testing"

	"terrace/api"
	"terrace/fix"
)

// P17.2: the greatest rate that is low enough, and the one a bit above it, written out.
func TestLowEnough(t *testing.T) {
	for _, c := range []struct{ own, rate fix.F }{
		{0, 0}, {1, 1}, {2, 2}, {6, 6}, {7, 8}, {8, 9}, {13, 14}, {14, 16}, {15, 17},
		{one - 1, 4908534051}, {one, 4908534052}, {one + 1, 4908534053}, {8 * one, 39268272420},
		{1 << 63, 10540996613548315209}, {16140901064495857663, highest - 1},
	} {
		r, p := started(t, c.own)
		is(t, "Echo a bit above", echo(t, r, p, 5, c.rate+1), false)
		is(t, "Echo of Max", echo(t, r, p, 5, fix.Max), false)
		tells(t, r, 120, true, 5, c.own)
		is(t, "Echo of the greatest that is low enough", echo(t, r, p, 5, c.rate), true)
		tells(t, r, 0, false, 5, c.own)
		r, p = started(t, c.own)
		is(t, "Echo of 0", echo(t, r, p, 5, 0), true)
		tells(t, r, 0, false, 5, c.own)
	}
}

// P17.2: from the own rate on that Max less its eighth is, every rate is low enough.
func TestAllLowEnough(t *testing.T) {
	for _, own := range []fix.F{16140901064495857664, 16140901064495857665, fix.Max - 1, fix.Max} {
		for _, rate := range rates {
			r, p := started(t, own)
			is(t, "Echo", echo(t, r, p, 5, rate), true)
			tells(t, r, 0, false, 5, own)
		}
	}
}

// P17.2: every own rate and every echoed one.
func TestRates(t *testing.T) {
	for _, own := range rates {
		for _, rate := range rates {
			r, p := started(t, own)
			echo(t, r, p, 5, rate)
			echo(t, r, p, 5, rate)
			fire(t, r, p, 120)
		}
	}
	for own := range fix.F(100) {
		for rate := range fix.F(130) {
			r, p := started(t, own)
			echo(t, r, p, 5, rate)
		}
	}
}

// P17.2: an own rate is always low enough for itself, and none below it is too great.
func TestOwnRateEchoed(t *testing.T) {
	for _, own := range rates {
		for _, rate := range []fix.F{own, own / 2, own - min(own, 1), 0} {
			r, p := started(t, own)
			is(t, "Echo", echo(t, r, p, 5, rate), true)
		}
	}
}

// P17.2: an echo of another round is nothing, however low it is.
func TestEchoOfAnotherRound(t *testing.T) {
	r, p := started(t, fix.Max)
	for _, number := range append([]int{4, 6, 1<<32 + 5, -5, -6}, edges...) {
		if number == 5 {
			t.Fatal("that is the round's own number")
		}
		is(t, "Echo", echo(t, r, p, number, 0), false)
		tells(t, r, 120, true, 5, fix.Max)
	}
	is(t, "Echo of the round", echo(t, r, p, 5, 0), true)
}

// P17.2: while it is idle, no echo is anything: of a new one, of one that fired, of one that was hushed.
func TestEchoWhileIdle(t *testing.T) {
	r, p := made(t)
	for _, number := range append([]int{5}, edges...) {
		is(t, "Echo of a new one", echo(t, r, p, number, 0), false)
	}
	tells(t, r, 0, false, -1, 0)
	firedOne, q := started(t, fix.Max)
	is(t, "Fire", fire(t, firedOne, q, 120), true)
	hushedOne, s := started(t, fix.Max)
	is(t, "Echo", echo(t, hushedOne, s, 5, 1), true)
	for _, number := range append([]int{4, 5, 6}, edges...) {
		is(t, "Echo behind Fire", echo(t, firedOne, q, number, 0), false)
		is(t, "Echo behind Echo", echo(t, hushedOne, s, number, 0), false)
	}
	tells(t, firedOne, 0, false, 5, fix.Max)
	tells(t, hushedOne, 0, false, 5, fix.Max)
}

// P17.2: a round whose number is 0 hears echoes as any other one.
func TestFirstNumber(t *testing.T) {
	r, p := made(t)
	start(t, r, p, 0, 0, 0, 3)
	is(t, "Echo of -1", echo(t, r, p, -1, 0), false)
	is(t, "Echo of 0", echo(t, r, p, 0, 3), true)
	tells(t, r, 0, false, 0, 3)
}

// P17.2: behind a hushed round Fire and Urge find nothing.
func TestHushed(t *testing.T) {
	r, p := started(t, 8)
	is(t, "Echo", echo(t, r, p, 5, 9), true)
	for _, now := range []int{99, 100, 119, 120, 121, api.MaxTick, last} {
		is(t, "Fire", fire(t, r, p, now), false)
	}
	errnoIs(t, "Urge", urge(t, r, p, 100), api.ErrState)
	tells(t, r, 0, false, 5, 8)
}

// P17.2: it fires at its tick and behind it, not ahead of it, once.
func TestFire(t *testing.T) {
	for _, c := range []struct {
		now  int
		want bool
	}{
		{first, false}, {first + 1, false}, {-api.MaxTick, false}, {-1, false}, {0, false}, {1, false}, {99, false}, {100, false}, {118, false}, {119, false},
		{120, true}, {121, true}, {1 << 32, true}, {api.MaxTick, true}, {api.MaxTick + 1, true}, {2 * api.MaxTick, true}, {last - 1, true}, {last, true},
	} {
		r, p := started(t, 77)
		is(t, "Fire", fire(t, r, p, c.now), c.want)
		tells(t, r, map[bool]int{false: 120}[c.want], !c.want, 5, 77)
		is(t, "Fire at the greatest number", fire(t, r, p, last), !c.want)
		for _, now := range edges {
			is(t, "Fire once more", fire(t, r, p, now), false)
		}
		tells(t, r, 0, false, 5, 77)
	}
}

// P17.2: a round that is due at tick 0 doesn't fire below it.
func TestFireAtNoTick(t *testing.T) {
	r, p := made(t)
	start(t, r, p, 0, 0, 0, 7)
	for _, now := range []int{first, -api.MaxTick, -2, -1} {
		is(t, "Fire", fire(t, r, p, now), false)
	}
	tells(t, r, 0, true, 0, 7)
	is(t, "Fire", fire(t, r, p, 0), true)
	tells(t, r, 0, false, 0, 7)
}

// P17.2: a round that was started at a late tick with a long wait fires behind the greatest tick.
func TestFireBehindTheGreatestTick(t *testing.T) {
	r, p := made(t)
	start(t, r, p, 1, api.MaxTick, api.MaxTick, 7)
	for _, now := range []int{api.MaxTick, api.MaxTick + 1, 2*api.MaxTick - 1} {
		is(t, "Fire", fire(t, r, p, now), false)
	}
	is(t, "Fire", fire(t, r, p, 2*api.MaxTick), true)
}

// P17.2: urged at an earlier tick it is due then, at its own and at later ones it stays due.
func TestUrge(t *testing.T) {
	for _, c := range []struct {
		now int
		e   api.Errno
		due int
	}{
		{first, api.ErrRange, 120}, {first + 1, api.ErrRange, 120}, {-api.MaxTick, api.ErrRange, 120}, {-1, api.ErrRange, 120},
		{0, api.OK, 0}, {1, api.OK, 1}, {99, api.OK, 99}, {100, api.OK, 100}, {118, api.OK, 118}, {119, api.OK, 119},
		{120, api.OK, 120}, {121, api.OK, 120}, {1 << 32, api.OK, 120}, {api.MaxTick - 1, api.OK, 120}, {api.MaxTick, api.OK, 120},
		{api.MaxTick + 1, api.ErrRange, 120}, {2 * api.MaxTick, api.ErrRange, 120}, {last - 1, api.ErrRange, 120}, {last, api.ErrRange, 120},
	} {
		r, p := started(t, 77)
		errnoIs(t, "Urge", urge(t, r, p, c.now), c.e)
		tells(t, r, c.due, true, 5, 77)
		is(t, "Fire ahead of it", fire(t, r, p, c.due-1), false)
		is(t, "Fire at it", fire(t, r, p, c.due), true)
		errnoIs(t, "Urge behind it", r.Urge(0), api.ErrState)
		tells(t, r, 0, false, 5, 77)
	}
}

// P17.2: of many urges the earliest one holds.
func TestUrges(t *testing.T) {
	r, p := started(t, 77)
	for _, c := range [][2]int{{119, 119}, {130, 119}, {110, 110}, {110, 110}, {111, 110}, {120, 110}, {50, 50}, {100, 50}, {0, 0}, {api.MaxTick, 0}} {
		errnoIs(t, "Urge", urge(t, r, p, c[0]), api.OK)
		tells(t, r, c[1], true, 5, 77)
	}
	is(t, "Fire", fire(t, r, p, 0), true)
}

// P17.2: one that is due behind the greatest tick is urged to it.
func TestUrgeToTheGreatestTick(t *testing.T) {
	r, p := made(t)
	start(t, r, p, 1, api.MaxTick, 5, 7)
	errnoIs(t, "Urge behind the greatest tick", urge(t, r, p, api.MaxTick+1), api.ErrRange)
	tells(t, r, api.MaxTick+5, true, 1, 7)
	errnoIs(t, "Urge at the greatest tick", urge(t, r, p, api.MaxTick), api.OK)
	tells(t, r, api.MaxTick, true, 1, 7)
}

// P17.2: while it is idle, an urge is ErrState at every tick, and is not kept for the next round.
func TestUrgeWhileIdle(t *testing.T) {
	r, p := made(t)
	firedOne, q := started(t, 77)
	is(t, "Fire", fire(t, firedOne, q, 120), true)
	hushedOne, s := started(t, 77)
	is(t, "Echo", echo(t, hushedOne, s, 5, 77), true)
	for _, now := range []int{0, 1, 119, 120, 121, api.MaxTick} {
		errnoIs(t, "Urge of a new one", urge(t, r, p, now), api.ErrState)
		errnoIs(t, "Urge behind Fire", urge(t, firedOne, q, now), api.ErrState)
		errnoIs(t, "Urge behind Echo", urge(t, hushedOne, s, now), api.ErrState)
	}
	tells(t, r, 0, false, -1, 0)
	tells(t, firedOne, 0, false, 5, 77)
	tells(t, hushedOne, 0, false, 5, 77)
	start(t, firedOne, q, 6, 200, 3, 1)
	tells(t, firedOne, 203, true, 6, 1)
	start(t, hushedOne, s, 6, 200, 3, 1)
	tells(t, hushedOne, 203, true, 6, 1)
}

// P17.2: an urged round still may be hushed, and urging changes neither its number nor its own rate.
func TestUrgedAndHushed(t *testing.T) {
	r, p := started(t, 77)
	errnoIs(t, "Urge", urge(t, r, p, 100), api.OK)
	tells(t, r, 100, true, 5, 77)
	is(t, "Echo", echo(t, r, p, 5, 77), true)
	is(t, "Fire", fire(t, r, p, 100), false)
	tells(t, r, 0, false, 5, 77)
}
