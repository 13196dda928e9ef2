package bucket

import (
	"testing"

	"terrace/fix"
)

// P20.1: each Fill is as many tokens more, once and again; nothing is spent by it.
func TestFillAdds(t *testing.T) {
	for _, rate := range []fix.F{0, 1, one - 1, one, 7*one + 3} {
		b, p := made(t, 10)
		for n := range fix.F(50) {
			fill(t, b, p, rate)
			tells(t, "Fill", b, rate*(n+1), 0)
		}
	}
}

// P20.1: tokens above all numbers are Max, and stay so.
func TestFillUntilMax(t *testing.T) {
	for _, rate := range []fix.F{1, one - 1, one, 1 << 63, highest - 1, highest} {
		b, p := filled(t, 10, highest-1)
		tells(t, "ahead", b, highest-1, 0)
		for range 3 {
			fill(t, b, p, rate)
			tells(t, "Fill", b, highest, 0)
			fill(t, b, p, 0)
			tells(t, "Fill(0)", b, highest, 0)
		}
	}
}

// P20.1: a Fill that comes just to Max, or a bit below it, is no more and no less.
func TestFillBesideMax(t *testing.T) {
	for _, tokens := range rates {
		for _, c := range []struct{ rate, want fix.F }{{highest - tokens, highest}, {highest - tokens - min(1, highest-tokens), highest - min(1, highest-tokens)}} {
			b, p := filled(t, 320, tokens)
			fill(t, b, p, c.rate)
			tells(t, "Fill", b, c.want, 0)
		}
	}
}

// P20.1: all pairs of edges.
func TestFillAnyRates(t *testing.T) {
	for _, x := range rates {
		for _, y := range rates {
			b, p := filled(t, 10, x)
			fill(t, b, p, y)
			end(t, b, p)
			fill(t, b, p, y)
		}
	}
}

// P20.1: the size doesn't hold a Fill; it does hold what is left at a tick's end.
func TestFillAboveSize(t *testing.T) {
	b, p := filled(t, 10, 25*one+5)
	tells(t, "Fill", b, 25*one+5, 0)
	fill(t, b, p, 4*one)
	tells(t, "Fill", b, 29*one+5, 0)
	end(t, b, p)
	tells(t, "End", b, 10*one, 0)
	fill(t, b, p, 4*one)
	tells(t, "Fill behind End", b, 14*one, 0)
}

// P20.1: parts of a byte are kept over ticks, until they come to a whole one.
func TestFillParts(t *testing.T) {
	for _, c := range []struct {
		rate  fix.F
		ticks int
	}{{one, 1}, {one - 1, 2}, {one / 2, 2}, {one/2 - 1, 3}, {one / 3, 4}, {one/3 + 1, 3}, {1 << 20, 4096}, {1<<20 - 1, 4097}} {
		b, p := made(t, 10)
		for tick := 1; tick <= c.ticks; tick++ {
			fill(t, b, p, c.rate)
			is(t, "Spend(1)", spend(t, b, p, 1), tick == c.ticks)
			end(t, b, p)
		}
		tells(t, "behind them", b, fix.F(c.ticks)*c.rate-one, 1)
	}
}
