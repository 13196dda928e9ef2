package trip

import (
	"testing"

	"terrace/fix"
)

// P16.1: the chapter's example.
func TestExample(t *testing.T) {
	x := New(fix.Of(50))
	errnoIs(t, x, 20, 10, 2, 0)
	tells(t, x, fix.Of(8), 8, 1)
	errnoIs(t, x, 40, 20, 4, 0)
	tells(t, x, fix.Of(9), 9, 2)
}

// P16.1, P16.2: New at the edges of One and of Max, and between, written out: no guess is below One.
func TestNew(t *testing.T) {
	for _, c := range []struct {
		told, guess fix.F
		ticks       int
	}{
		{0, one, 1},
		{1, one, 1},
		{one / 2, one, 1},
		{one - 1, one, 1},
		{one, one, 1},
		{one + 1, one + 1, 2},
		{3 * one / 2, 3 * one / 2, 2},
		{2*one - 1, 2*one - 1, 2},
		{2 * one, 2 * one, 2},
		{2*one + 1, 2*one + 1, 3},
		{50 * one, 50 * one, 50},
		{50*one - 1, 50*one - 1, 50},
		{50*one + 1, 50*one + 1, 51},
		{1 << 52, 1 << 52, 1 << 20},
		{1<<52 + 1, 1<<52 + 1, 1<<20 + 1},
		{1<<63 - 1, 1<<63 - 1, 1 << 31},
		{1 << 63, 1 << 63, 1 << 31},
		{1<<63 + 1, 1<<63 + 1, 1<<31 + 1},
		{highest - one, highest - one, 1<<32 - 1},
		{highest - one + 1, highest - one + 1, 1<<32 - 1},
		{highest - one + 2, highest - one + 2, 1 << 32},
		{highest - 1, highest - 1, 1 << 32},
		{highest, highest, 1 << 32},
	} {
		x, p := made(t, c.told)
		tells(t, x, c.guess, c.ticks, 0)
		holds(t, x, p)
	}
}

// P16.1: two trips that were told the same guess are two.
func TestNewIsAnother(t *testing.T) {
	x, p := made(t, fix.Of(3))
	y, q := made(t, fix.Of(3))
	lasts(t, x, p, 9)
	tells(t, x, fix.Of(9), 9, 1)
	tells(t, y, fix.Of(3), 3, 0)
	holds(t, y, q)
}

// P16.1: the first sample is the guess, whatever New was told: less than that, the same, more.
func TestFirstSample(t *testing.T) {
	for _, told := range guesses {
		for _, long := range []int{1, 2, 3, 8, 49, 50, 51, most - 1, most} {
			x, p := made(t, told)
			lasts(t, x, p, long)
			tells(t, x, fix.Of(uint32(long)), long, 1)
			holds(t, x, p)
			lasts(t, x, p, long, long+1-long>>20)
			holds(t, x, p)
		}
	}
}

// P16.1: a further sample is smoothed in: an eighth of the guess goes, rounded down, and an eighth of it comes.
func TestSmoothed(t *testing.T) {
	x, p := measured(t, 3)
	for i, c := range []struct {
		long  int
		guess fix.F
		ticks int
	}{
		{5, 13958643712, 4},
		{1, 12750684160, 3},
		{7, 14914945024, 4},
		{1048576, 562963003998208, 131076},
		{2, 492593702240256, 114691},
		{3, 431021100072960, 100355},
		{3, 377145073176576, 87811},
		{100, 330055626120704, 76848},
		{9, 288803504693824, 67243},
		{1, 252703603478008, 58838},
		{1, 221116189914169, 51483},
		{1, 193477203045810, 45048},
		{6, 169295773890556, 39418},
		{1048575, 711083218704637, 165562},
		{77, 622239155426782, 144877},
	} {
		lasts(t, x, p, c.long)
		tells(t, x, c.guess, c.ticks, i+2)
		holds(t, x, p)
	}
}

// P16.1: what an eighth of the guess rounds, to the last bit: down to a guess, and up to it.
func TestRounded(t *testing.T) {
	for _, c := range []struct {
		from, to, count int
		guess           fix.F
	}{
		{2, 1, 1, 2*one - 1<<29},
		{2, 1, 10, one + 1129900996},
		{2, 1, 11, one + 988663372},
		{2, 1, 12, one + 865080451},
		{2, 1, 100, one + 6824},
		{2, 1, 150, one + 12},
		{2, 1, 199, one + 7},
		{1, 2, 1, one + 1<<29},
		{1, 2, 10, 2*one - 1129900996},
		{1, 2, 11, 2*one - 988663371},
		{1, 2, 12, 2*one - 865080449},
		{1, 2, 100, 2*one - 6817},
		{1, 2, 150, 2*one - 5},
		{1, 2, 199, 2 * one},
	} {
		x, p := measured(t, c.from)
		lasts(t, x, p, many(c.count, c.to)...)
		tells(t, x, c.guess, 2, c.count+1)
		holds(t, x, p)
	}
}

// P16.2: samples of one tick behind a guess of One, and of a few bits above it: the guess is never below One.
func TestNeverBelowOne(t *testing.T) {
	for _, told := range guesses {
		x, p := made(t, told)
		for known := range 100 {
			lasts(t, x, p, known%2)
			tells(t, x, one, 1, known+1)
		}
		holds(t, x, p)
	}
	for _, from := range []int{2, 3, 9, 1000, most} {
		x, p := measured(t, from)
		for x.Get() > one+7 {
			lasts(t, x, p, 1)
			if x.Get() < one || x.Known() > 400 {
				t.Fatalf("%d samples: %d", x.Known(), x.Get())
			}
		}
		holds(t, x, p)
		lasts(t, x, p, many(50, 1)...)
		tells(t, x, one+7, 2, x.Known())
		holds(t, x, p)
	}
}

// P16.2: a guess of a few bits above One, as it is laid: an eighth of it is less than that of one tick by no bit.
func TestFewBitsAboveOne(t *testing.T) {
	for bits := range fix.F(40) {
		x := &Trip{guess: one + bits, samples: 1}
		errnoIs(t, x, 5, 3, 2, 0)
		tells(t, x, one+bits-bits/8, 2-max(0, 1-int(bits)), 2)
	}
}

// P16.1: Ticks a bit below whole numbers, at them, and a bit above.
func TestTicks(t *testing.T) {
	for _, n := range []int{2, 3, 7, 8, 1000, 1<<16 - 1, most - 1, most, most + 1, 1<<31 - 1, 1 << 31, 1<<31 + 1, 1<<32 - 2, 1<<32 - 1} {
		f := fix.Of(uint32(n))
		for _, c := range []struct {
			told  fix.F
			ticks int
		}{{f - one + 1, n}, {f - one/2, n}, {f - 1, n}, {f, n}, {f + 1, n + 1}, {f + one/2, n + 1}, {f + one - 1, n + 1}} {
			x := New(c.told)
			tells(t, x, c.told, c.ticks, 0)
		}
	}
}
