package history

import (
	"math/rand/v2"
	"slices"
	"testing"

	"terrace/api"
	"terrace/fix"
)

// P14.2: the chapter's example.
func TestExample(t *testing.T) {
	h, p := run(t, 10, 4)
	fIs(t, "Mean", h.Mean(), fix.Of(10))
	grow(t, h, p, 20)
	fIs(t, "Mean", h.Mean(), fix.Of(17))
	// 24 is more than twice 10: (10 24 + 5 10) / 15.
	fIs(t, "Discounted", h.Discounted(), fix.Ratio(290, 15))
	fIs(t, "Rate", h.Rate(), fix.One.Div(fix.Of(17)))
	holds(t, h, p)
}

// P14.2: means that are written out, each by its closed intervals, the newest first, and the open one.
func TestNamedMeans(t *testing.T) {
	up := []int{1, 2, 3, 4, 5, 6, 7, 8}
	down := []int{8, 7, 6, 5, 4, 3, 2, 1}
	for _, c := range []struct {
		closed           []int
		open             int
		mean, discounted fix.F
	}{
		{[]int{10}, 0, fix.Of(10), fix.Of(10)},
		{[]int{10}, 10, fix.Of(10), fix.Of(10)},
		{[]int{10}, 20, fix.Of(15), fix.Of(15)},
		{[]int{10}, 21, fix.Ratio(31, 2), fix.Ratio(52, 3)},
		{[]int{20, 40}, 90, fix.Of(50), fix.Of(60)},
		{[]int{0}, 0, 0, 0},
		{[]int{0}, 1, fix.Ratio(1, 2), fix.Ratio(2, 3)},
		// 5 (1 + 2 + 3 + 4) + 4 5 + 3 6 + 2 7 + 8 = 110, by 30; with an open 0 it is 5 (1 + 2 + 3) + 4 4 + 3 5 + 2 6 + 7 = 80.
		{up, 0, fix.Ratio(110, 30), fix.Ratio(110, 30)},
		{up, 6, fix.Ratio(110, 30), fix.Ratio(110, 30)},
		{up, 7, fix.Ratio(115, 30), fix.Ratio(115, 30)},
		{up, 8, fix.Ratio(120, 30), fix.Ratio(160, 35)},
		// 5 (8 + 7 + 6 + 5) + 4 4 + 3 3 + 2 2 + 1 = 160; with an open 0 it is 5 (8 + 7 + 6) + 4 5 + 3 4 + 2 3 + 2 = 145.
		{down, 3, fix.Ratio(160, 30), fix.Ratio(160, 30)},
		{down, 4, fix.Ratio(165, 30), fix.Ratio(165, 30)},
		{down, 10, fix.Ratio(195, 30), fix.Ratio(195, 30)},
		{down, 11, fix.Ratio(200, 30), fix.Ratio(255, 35)},
	} {
		oldest := slices.Clone(c.closed)
		slices.Reverse(oldest)
		h, _ := run(t, append(oldest, c.open)...)
		fIs(t, "Mean", h.Mean(), c.mean)
		fIs(t, "Discounted", h.Discounted(), c.discounted)
	}
}

// P14.2: each place has its own weight: of eight closed intervals one alone is something.
func TestWeights(t *testing.T) {
	for place, weight := range []uint64{5, 5, 5, 5, 4, 3, 2, 1} {
		h, p := made(t)
		for i := 7; i >= 0; i-- {
			if i == place {
				grow(t, h, p, 3000)
			}
			loss(t, h, p)
		}
		fIs(t, "Mean", h.Mean(), fix.Ratio(3000*weight, 30))
		fIs(t, "Discounted", h.Discounted(), fix.Ratio(3000*weight, 30))
		holds(t, h, p)
	}
}

// P14.2: each number of closed intervals weighs by so many weights; the ninth one weighs nothing.
func TestWeightsUsed(t *testing.T) {
	sums := []uint64{0, 5, 10, 15, 20, 24, 27, 29, 30, 30, 30}
	h, p := made(t)
	grow(t, h, p, 7000)
	loss(t, h, p)
	for count := 1; count <= 10; count++ {
		oldest := sums[count] - sums[count-1]
		fIs(t, "Mean", h.Mean(), fix.Ratio(7000*oldest, sums[count]))
		holds(t, h, p)
		loss(t, h, p)
	}
}

// bound is the greatest open interval that is at most twice the closed ones' mean.
func bound(p *plain) int {
	closed, _ := p.means(1)
	return int(asF(closed) >> 31)
}

// P14.2: each number of closed intervals of many a form, with open ones of nothing, small, at and about the mean, at and
// about twice the mean, and great.
func TestMeans(t *testing.T) {
	forms := []func(i int) int{
		func(i int) int { return 0 },
		func(i int) int { return 1 },
		func(i int) int { return most },
		func(i int) int { return i },
		func(i int) int { return 9 - i },
		func(i int) int { return i % 2 * 100 },
		func(i int) int { return i * i * 1000 },
		func(i int) int { return most >> (2 * i) },
		func(i int) int { return i % 3 * 349525 },
	}
	for _, form := range forms {
		for count := 1; count <= 9; count++ {
			h, p := made(t)
			for i := range count {
				grow(t, h, p, form(i))
				loss(t, h, p)
			}
			twice := bound(p)
			for _, open := range []int{0, 1, 2, 3, twice/2 - 1, twice / 2, twice/2 + 1, twice - 1, twice, twice + 1, twice + 2, 3 * twice, most - 1, most} {
				if open < 0 || open > most {
					continue
				}
				c, q := h.Copy(), p.copy()
				grow(t, c, q, open)
				holds(t, c, q)
			}
		}
	}
}

// P14.2: Discounted is Mean up to just twice the closed ones' mean, and more from one above that on.
func TestDiscountBegins(t *testing.T) {
	for _, closed := range [][]int{{1}, {10}, {1, 2}, {7, 7, 7}, {3, 1, 4, 1, 5, 9, 2, 6}, {1, 1, 1, 1, 1, 1, 1, 1}, {300, 200, 100}, {1000, 1, 1, 1, 1}} {
		h, p := run(t, append(slices.Clone(closed), 0)...)
		for open := 0; open <= 2*bound(p)+4; open++ {
			if p.isLong() != (h.Discounted() > h.Mean()) || open > bound(p) != p.isLong() {
				t.Fatalf("closed %v, open %d: Mean %d, Discounted %d", p.closed(), open, h.Mean(), h.Discounted())
			}
			holds(t, h, p)
			packet(t, h, p, 1)
		}
	}
}

// P14.2: where all are nothing the rate is One, where all are the most it is 2^-20, by every number of closed intervals.
func TestAllAlike(t *testing.T) {
	for count := 1; count <= 10; count++ {
		none, _ := run(t, make([]int, count+1)...)
		fIs(t, "Mean", none.Mean(), 0)
		fIs(t, "Discounted", none.Discounted(), 0)
		fIs(t, "Rate", none.Rate(), fix.One)
		great, p := run(t, append(slices.Repeat([]int{most}, count), 0)...)
		for _, open := range []int{0, 1 << 19, 1 << 19} {
			grow(t, great, p, open)
			fIs(t, "Mean", great.Mean(), fix.Of(1<<20))
			fIs(t, "Discounted", great.Discounted(), fix.Of(1<<20))
			fIs(t, "Rate", great.Rate(), fix.One>>20)
		}
		errnoIs(t, "Packet(1)", packet(t, great, p, 1), api.ErrRange)
	}
}

// P14.2: the rate with no closed interval, and with means below one, at one and above it.
func TestRates(t *testing.T) {
	for _, c := range []struct {
		intervals []int // the oldest first, the last one open
		want      fix.F
	}{
		{[]int{0}, 0}, {[]int{5}, 0}, {[]int{most}, 0},
		{[]int{0, 0}, fix.One}, {[]int{0, 1}, fix.One}, {[]int{0, 2}, fix.One}, {[]int{0, 3}, fix.Ratio(2, 3)},
		{[]int{1, 0}, fix.One}, {[]int{0, 1, 0}, fix.One}, {[]int{1, 1, 1}, fix.One}, {[]int{1, 2, 0}, fix.Ratio(2, 3)},
		{[]int{10, 0}, fix.Ratio(1, 10)}, {[]int{10, 10}, fix.Ratio(1, 10)}, {[]int{2, 0}, fix.One / 2},
		{[]int{8, 0}, fix.One / 8}, {[]int{0, most}, fix.One >> 19}, {[]int{most, 0}, fix.One >> 20}, {[]int{most, most}, fix.One >> 20},
		// Means of 24 thirtieths, of one, and of a thirtieth more.
		{[]int{0, 0, 0, 0, 1, 1, 1, 1, 1}, fix.One}, {[]int{1, 1, 1, 1, 1, 1, 1, 1, 0}, fix.One},
		{[]int{2, 1, 1, 1, 1, 1, 1, 1, 0}, fix.One.Div(fix.Ratio(31, 30))},
	} {
		h, p := run(t, c.intervals...)
		fIs(t, "Rate", h.Rate(), c.want)
		fIs(t, "Rate by the model", p.rate(), c.want)
	}
}

// P14.2: a longer open interval never makes the rate greater, packet by packet, nor any mean less.
func TestLongerIsNoMoreOften(t *testing.T) {
	for seed := range uint64(40) {
		r := rand.New(rand.NewPCG(1402, seed))
		h, p := made(t)
		for range r.IntN(11) {
			grow(t, h, p, r.IntN(400)>>r.IntN(9))
			loss(t, h, p)
		}
		closedOnes := len(h.Closed())
		for range 1500 {
			mean, discounted, rate := h.Mean(), h.Discounted(), h.Rate()
			packet(t, h, p, 1)
			if h.Mean() < mean || h.Discounted() < discounted || h.Rate() > rate || rate > fix.One {
				t.Fatalf("open %d, closed %v: Mean %d to %d, Discounted %d to %d, Rate %d to %d",
					p.open, p.closed(), mean, h.Mean(), discounted, h.Discounted(), rate, h.Rate())
			}
			if len(h.Closed()) != closedOnes {
				t.Fatalf("Closed behind Packet: %v", h.Closed())
			}
		}
		holds(t, h, p)
	}
}

// P14.2: so it is by long steps too, up to the most.
func TestMuchLongerIsNoMoreOften(t *testing.T) {
	for seed := range uint64(40) {
		r := rand.New(rand.NewPCG(1403, seed))
		h, p := made(t)
		for range 1 + r.IntN(10) {
			grow(t, h, p, r.IntN(most+1)>>r.IntN(21))
			loss(t, h, p)
		}
		for p.open < most {
			mean, discounted, rate := h.Mean(), h.Discounted(), h.Rate()
			grow(t, h, p, min(most-p.open, 1+r.IntN(1<<16)>>r.IntN(4)))
			if h.Mean() < mean || h.Discounted() < discounted || h.Rate() > rate {
				t.Fatalf("open %d, closed %v: Rate %d to %d", p.open, p.closed(), rate, h.Rate())
			}
			holds(t, h, p)
		}
	}
}

// P14.2: telling changes nothing, however often it is done and in which order.
func TestTellingChangesNothing(t *testing.T) {
	h, p := run(t, 5, 0, 60, 9, 1000)
	for range 3 {
		fIs(t, "Rate", h.Rate(), p.rate())
		fIs(t, "Discounted", h.Discounted(), p.discounted())
		fIs(t, "Mean", h.Mean(), p.mean())
		fIs(t, "Discounted", h.Discounted(), p.discounted())
		holds(t, h, p)
	}
}
