package history

import (
	"math"
	"math/big"
	"slices"
	"testing"

	"terrace/api"
	"terrace/fix"
)

const (
	first = math.MinInt
	last  = math.MaxInt
	most  = 1 << 20 // the greatest interval
)

// edges are the numbers that the chapter and the language make special.
var edges = []int{
	first, first + 1, -most, -1 << 16, -2, -1, 0, 1, 2, 3, 7, 8, 9, 10, 255, 256,
	1<<16 - 1, 1 << 16, 1<<16 + 1, most - 1<<16 - 1, most - 1<<16, most - 1<<16 + 1, most - 1, most, most + 1,
	1 << 31, 1 << 32, 1<<32 + 1, last - most, last - 1, last,
}

// plain is what a history is held against: every interval that was ever closed, the oldest first, and the open one.
type plain struct {
	ever []int
	open int
}

func (p *plain) copy() *plain { return &plain{slices.Clone(p.ever), p.open} }

func (p *plain) packet(n int) api.Errno {
	sum := new(big.Int).Add(big.NewInt(int64(p.open)), big.NewInt(int64(n)))
	if n < 0 || n > 65536 || sum.Cmp(big.NewInt(1048576)) > 0 {
		return api.ErrRange
	}
	p.open += n
	return api.OK
}

func (p *plain) loss() bool {
	p.ever = append(p.ever, p.open)
	p.open = 0
	return len(p.ever) == 1
}

func (p *plain) start(n int) bool {
	if len(p.ever) != 1 || n < 1 || n > 1048576 {
		return false
	}
	p.ever = []int{n}
	return true
}

// closed are the last eight, the newest first.
func (p *plain) closed() []int {
	l := slices.Clone(p.ever[max(0, len(p.ever)-8):])
	slices.Reverse(l)
	return l
}

// weight is the one at a place, in fifths.
func weight(place int) int64 { return int64(min(5, 8-place)) }

// average is that of the intervals, at most eight, each by its weight, where all weights but the first are cut in as many
// parts as told. It is exact.
func average(intervals []int, parts int64) *big.Rat {
	sum, weights := new(big.Rat), new(big.Rat)
	for i, n := range intervals[:min(8, len(intervals))] {
		w := big.NewRat(weight(i), 1)
		if i > 0 {
			w = big.NewRat(weight(i), parts)
		}
		weights.Add(weights, w)
		sum.Add(sum, w.Mul(w, big.NewRat(int64(n), 1)))
	}
	return sum.Quo(sum, weights)
}

func (p *plain) withOpen() []int { return append([]int{p.open}, p.closed()...) }

// means are the closed intervals' own, and the one that has the open one, exact.
func (p *plain) means(parts int64) (closed, all *big.Rat) {
	return average(p.closed(), 1), average(p.withOpen(), parts)
}

// isLong is whether the open interval is more than twice the closed ones' mean.
func (p *plain) isLong() bool {
	half := big.NewRat(int64(p.open), 2)
	return half.Cmp(average(p.closed(), 1)) > 0
}

// asF is a number rounded down to 32 bits behind the point; none here is too great for that.
func asF(r *big.Rat) fix.F {
	n := new(big.Int).Lsh(r.Num(), 32)
	return fix.F(n.Quo(n, r.Denom()).Uint64())
}

func (p *plain) greater(parts int64) fix.F {
	closed, all := p.means(parts)
	if closed.Cmp(all) > 0 {
		return asF(closed)
	}
	return asF(all)
}

func (p *plain) mean() fix.F {
	if len(p.ever) == 0 {
		return math.MaxUint64
	}
	return p.greater(1)
}

func (p *plain) discounted() fix.F {
	switch {
	case len(p.ever) == 0:
		return math.MaxUint64
	case p.isLong():
		return p.greater(2)
	}
	return p.greater(1)
}

// rate is 1 by the mean as it is told, rounded down.
func (p *plain) rate() fix.F {
	mean := uint64(p.mean())
	switch {
	case len(p.ever) == 0:
		return 0
	case mean <= 1<<32:
		return 1 << 32
	}
	one := new(big.Int).Lsh(big.NewInt(1), 64)
	return fix.F(one.Quo(one, new(big.Int).SetUint64(mean)).Uint64())
}

// holds is all that a history tells, held against the model.
func holds(t testing.TB, h *History, p *plain) {
	t.Helper()
	if got := h.Open(); got != p.open {
		t.Fatalf("Open: %d, not %d", got, p.open)
	}
	if got, want := h.Closed(), p.closed(); !slices.Equal(got, want) {
		t.Fatalf("Closed: %v, not %v", got, want)
	}
	for _, c := range []struct {
		what      string
		got, want fix.F
	}{
		{"Mean", h.Mean(), p.mean()},
		{"Discounted", h.Discounted(), p.discounted()},
		{"Rate", h.Rate(), p.rate()},
	} {
		if c.got != c.want {
			t.Fatalf("open %d, closed %v: %s: %d, not %d", p.open, p.closed(), c.what, c.got, c.want)
		}
	}
}

func packet(t testing.TB, h *History, p *plain, n int) api.Errno {
	t.Helper()
	got, want := h.Packet(n), p.packet(n)
	if got != want {
		t.Fatalf("open %d: Packet(%d): %d, not %d", p.open, n, got, want)
	}
	return got
}

func loss(t testing.TB, h *History, p *plain) {
	t.Helper()
	if got, want := h.Loss(), p.loss(); got != want {
		t.Fatalf("Loss, the %d. one: %v, not %v", len(p.ever), got, want)
	}
}

func start(t testing.TB, h *History, p *plain, n int) {
	t.Helper()
	if got, want := h.Start(n), p.start(n); got != want {
		t.Fatalf("%d closed: Start(%d): %v, not %v", len(p.closed()), n, got, want)
	}
}

// grow lays so many packets to the open interval, whatever their number.
func grow(t testing.TB, h *History, p *plain, n int) {
	t.Helper()
	for ; n > 1<<16; n -= 1 << 16 {
		if e := packet(t, h, p, 1<<16); e != api.OK {
			t.Fatalf("Packet(2^16): %d", e)
		}
	}
	if e := packet(t, h, p, n); e != api.OK {
		t.Fatalf("Packet(%d): %d", n, e)
	}
}

func made(t testing.TB) (*History, *plain) {
	t.Helper()
	h := New()
	if h == nil {
		t.Fatal("New: nil")
	}
	return h, &plain{}
}

// run makes a history by its intervals, the oldest first, the last one of which stays open.
func run(t testing.TB, intervals ...int) (*History, *plain) {
	t.Helper()
	h, p := made(t)
	for i, n := range intervals {
		if i > 0 {
			loss(t, h, p)
		}
		grow(t, h, p, n)
	}
	holds(t, h, p)
	return h, p
}

func fIs(t testing.TB, what string, got, want fix.F) {
	t.Helper()
	if got != want {
		t.Fatalf("%s: %d, not %d", what, got, want)
	}
}

func closedIs(t testing.TB, h *History, want ...int) {
	t.Helper()
	if got := h.Closed(); !slices.Equal(got, want) {
		t.Fatalf("Closed: %v, not %v", got, want)
	}
}

func errnoIs(t testing.TB, what string, got, want api.Errno) {
	t.Helper()
	if got != want {
		t.Fatalf("%s: %d, not %d", what, got, want)
	}
}
