package trip

import (
	"testing"

	"terrace/api"
	"terrace/fix"
)

// refused are numbers that are no ticks, each to stand for now, echo and hold.
var refused = []int{
	first, first + 1, -api.MaxTick - 1, -api.MaxTick, -most, -2, -1, api.MaxTick + 1, api.MaxTick + 2, 2 * api.MaxTick, 1 << 62, last - 1, last,
}

// P16.1: now, echo and hold each from 0 to MaxTick, at the edges of that; what is refused changes nothing.
func TestNoTick(t *testing.T) {
	for _, long := range [][]int{nil, {8}, {3, 5, 1, 7}} {
		for _, n := range refused {
			x, p := measured(t, long...)
			guess, ticks := x.Get(), x.Ticks()
			for _, other := range []int{0, 1, 5, most, api.MaxTick} {
				errnoIs(t, x, n, other, 0, api.ErrRange)
				errnoIs(t, x, n, 0, other, api.ErrRange)
				errnoIs(t, x, other, n, 0, api.ErrRange)
				errnoIs(t, x, other, 0, n, api.ErrRange)
				errnoIs(t, x, 0, n, other, api.ErrRange)
				errnoIs(t, x, 0, other, n, api.ErrRange)
				errnoIs(t, x, n, n, other, api.ErrRange)
				errnoIs(t, x, other, n, n, api.ErrRange)
				errnoIs(t, x, n, other, n, api.ErrRange)
				errnoIs(t, x, n, n, n, api.ErrRange)
				tells(t, x, guess, ticks, len(long))
			}
			holds(t, x, p)
		}
	}
}

// P16.1: a number that is no tick is refused, though what is left of all three would be right.
func TestNoTickThoughItLasted(t *testing.T) {
	x, p := measured(t, 8)
	for _, c := range [][3]int{
		{api.MaxTick + 1, api.MaxTick, 0},
		{api.MaxTick + 1, 0, api.MaxTick},
		{api.MaxTick + 1, api.MaxTick + 1, 0},
		{api.MaxTick + 1, api.MaxTick - 5, 3},
		{api.MaxTick, api.MaxTick + 1, -1},
		{api.MaxTick, -1, api.MaxTick + 1},
		{0, -1, 0}, {0, 0, -1}, {0, -1, 1}, {0, 1, -1}, {5, 8, -4}, {5, -4, 8},
		{-1, -1, 0}, {-1, 0, -1}, {-1, -2, -1}, {-1, -8, 0},
		{first, first, 0}, {first, 0, first}, {first, 1, last}, {first, last, 1}, {first, last, 0}, {first, 0, last},
		{last, last, 0}, {last, 0, last}, {last, last - 8, 0}, {last, last - 8, 7},
		{-2, last, last}, {0, last, last}, {5, last, last}, {0, first, first}, {8, first, first},
	} {
		errnoIs(t, x, c[0], c[1], c[2], api.ErrRange)
		sample(t, x, p, c[0], c[1], c[2])
		tells(t, x, fix.Of(8), 8, 1)
	}
}

// P16.1: how long a sample may last, at each edge, with each of the three at the ends of what a tick is.
func TestHowLong(t *testing.T) {
	for _, c := range []struct {
		long  int
		e     api.Errno
		guess int
	}{
		{-api.MaxTick, api.ErrRange, 50}, {-most, api.ErrRange, 50}, {-2, api.ErrRange, 50}, {-1, api.ErrRange, 50},
		{0, api.OK, 1}, {1, api.OK, 1}, {2, api.OK, 2}, {3, api.OK, 3}, {1000, api.OK, 1000},
		{most - 1, api.OK, most - 1}, {most, api.OK, most},
		{most + 1, api.ErrRange, 50}, {2 * most, api.ErrRange, 50}, {1 << 32, api.ErrRange, 50}, {1<<32 + 8, api.ErrRange, 50},
		{1 << 33, api.ErrRange, 50}, {api.MaxTick - 1, api.ErrRange, 50}, {api.MaxTick, api.ErrRange, 50},
	} {
		known := 1
		if c.e != api.OK {
			known = 0
		}
		tried := 0
		for _, now := range []int{0, 1, most, 1 << 32, api.MaxTick - 1, api.MaxTick} {
			for _, hold := range []int{0, 1, 2, most, now / 2, now, api.MaxTick - 1, api.MaxTick} {
				echo := now - hold - c.long
				if echo < 0 || echo > api.MaxTick {
					continue
				}
				tried++
				x, p := made(t, fix.Of(50))
				errnoIs(t, x, now, echo, hold, c.e)
				tells(t, x, fix.Of(uint32(c.guess)), c.guess, known)
				x, p = made(t, fix.Of(50))
				sample(t, x, p, now, hold, echo)
				holds(t, x, p)
			}
		}
		if tried == 0 {
			t.Fatalf("a sample of %d ticks wasn't tried", c.long)
		}
	}
}

// P16.1: all three at MaxTick, and each two of them, are refused or not by what is left.
func TestAtMaxTick(t *testing.T) {
	const greatest = api.MaxTick
	for _, c := range []struct {
		now, echo, hold int
		e               api.Errno
	}{
		{greatest, greatest, greatest, api.ErrRange},
		{greatest, greatest, 0, api.OK},
		{greatest, 0, greatest, api.OK},
		{greatest, greatest, 1, api.ErrRange},
		{greatest, 1, greatest, api.ErrRange},
		{greatest, greatest - 1, 1, api.OK},
		{0, greatest, greatest, api.ErrRange},
		{0, greatest, 0, api.ErrRange},
		{0, 0, greatest, api.ErrRange},
		{greatest, 0, 0, api.ErrRange},
		{0, 0, 0, api.OK},
	} {
		x, p := made(t, fix.Of(50))
		errnoIs(t, x, c.now, c.echo, c.hold, c.e)
		if c.e == api.OK {
			tells(t, x, fix.One, 1, 1)
		} else {
			tells(t, x, fix.Of(50), 50, 0)
		}
		sample(t, x.Copy(), p, c.now, c.echo, c.hold)
	}
}

// P16.1: samples of 0 ticks count as those of 1, behind other ones too.
func TestNoTime(t *testing.T) {
	x, p := measured(t, 9)
	y, q := measured(t, 9)
	for range 30 {
		lasts(t, x, p, 0)
		lasts(t, y, q, 1)
		tells(t, x, y.Get(), y.Ticks(), y.Known())
	}
	holds(t, x, p)
}

// P16.1: Known behind samples and behind what was refused, in turn.
func TestKnown(t *testing.T) {
	x, p := made(t, 0)
	for known := range 300 {
		tells(t, x, x.Get(), x.Ticks(), known)
		errnoIs(t, x, 5, 6, 0, api.ErrRange)
		errnoIs(t, x, most+6, 5, 0, api.ErrRange)
		errnoIs(t, x, 5, 3, -1, api.ErrRange)
		tells(t, x, x.Get(), x.Ticks(), known)
		lasts(t, x, p, known%40)
	}
	holds(t, x, p)
}

// P16.1: the times of samples have no order: one that was sent or came earlier than another one counts as well.
func TestNoOrder(t *testing.T) {
	x, p := made(t, 0)
	for _, now := range []int{api.MaxTick, 100, 5000, 100, 20, 2000, 20} {
		if e := sample(t, x, p, now, now-16, 8); e != api.OK {
			t.Fatalf("at %d: %d", now, e)
		}
	}
	tells(t, x, fix.Of(8), 8, 7)
}
