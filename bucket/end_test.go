package bucket

import (
	"testing"

	"terrace/fix"
)

// P20.1: the tokens are at most the size then, to the bit; twice is as once, and what was spent stays.
func TestEndHoldsTokens(t *testing.T) {
	for size := 1; size <= 320; size++ {
		whole := fix.Of(uint32(size))
		for _, c := range []struct{ tokens, want fix.F }{
			{0, 0}, {1, 1}, {one - 1, one - 1}, {whole - 1, whole - 1}, {whole, whole}, {whole + 1, whole},
			{whole + one - 1, whole}, {whole + one, whole}, {1 << 63, whole}, {highest - 1, whole}, {highest, whole},
		} {
			b, err := New(size)
			errnoIs(t, "New", err, 0)
			b.Fill(c.tokens)
			tells(t, "ahead", b, c.tokens, 0)
			for range 2 {
				b.End()
				tells(t, "End", b, c.want, 0)
			}
		}
	}
}

// P20.1: End leaves what was spent as it is.
func TestEndKeepsSpent(t *testing.T) {
	b, p := filled(t, 10, 100*one)
	is(t, "Spend", spend(t, b, p, 9), true)
	end(t, b, p)
	tells(t, "End", b, 10*one, 9)
	is(t, "Spend", spend(t, b, p, 10), true)
	tells(t, "Spend", b, 0, 19)
	end(t, b, p)
	tells(t, "End", b, 0, 19)
}

// P20.1: ticks without End lose nothing.
func TestTicksWithoutEnd(t *testing.T) {
	b, p := made(t, 10)
	for tick := range fix.F(100) {
		fill(t, b, p, 15*one+1)
		is(t, "Spend", spend(t, b, p, 10), true)
		tells(t, "without End", b, (tick+1)*(5*one+1), 10*int(tick+1))
	}
	end(t, b, p)
	tells(t, "End", b, 10*one, 1000)
}

// P20.1: what can be spent behind End is at most the size.
func TestSpendBehindEnd(t *testing.T) {
	for _, size := range sizes {
		b, p := filled(t, size, highest)
		end(t, b, p)
		for range size {
			is(t, "Spend", spend(t, b, p, 1), true)
		}
		is(t, "Spend, one too many", spend(t, b, p, 1), false)
		tells(t, "behind them", b, 0, size)
	}
}
