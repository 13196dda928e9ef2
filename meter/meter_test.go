package meter

import (
	"math"
	"math/rand/v2"
	"testing"

	"terrace/api"
	"terrace/fix"
)

// entry is one amount of the plain list of all that came, which the meter is held against.
type entry struct{ tick, n int }

func plainSum(list []entry, window, tick int) int {
	sum := 0
	for _, e := range list {
		if from := tick - window + 1; from <= e.tick && e.tick <= tick {
			sum += e.n
		}
	}
	return sum
}

func fresh(t testing.TB, window int) *Meter {
	t.Helper()
	m, e := New(window)
	if e != api.OK || m == nil {
		t.Fatalf("New(%d): %v, %d", window, m, e)
	}
	return m
}

func add(t testing.TB, m *Meter, tick, n int, want api.Errno) {
	t.Helper()
	if e := m.Add(tick, n); e != want {
		t.Fatalf("Add(%d, %d): %d, not %d", tick, n, e, want)
	}
}

func sums(t testing.TB, m *Meter, tick, want int) {
	t.Helper()
	if n := m.Sum(tick); n != want {
		t.Fatalf("Sum(%d): %d, not %d", tick, n, want)
	}
}

func last(t testing.TB, m *Meter, want int) {
	t.Helper()
	if n := m.Last(); n != want {
		t.Fatalf("Last: %d, not %d", n, want)
	}
}

// holds asks all that is promised about ticks near Last, from 64 below it on.
func holds(t testing.TB, m *Meter, list []entry, window, lastTick int) {
	t.Helper()
	last(t, m, lastTick)
	for tick := lastTick - 64; tick <= lastTick+2*window+3; tick++ {
		want := plainSum(list, window, tick)
		if n := m.Sum(tick); n != want {
			t.Fatalf("window %d, Last %d, Sum(%d): %d, not %d", window, lastTick, tick, n, want)
		}
		if r := m.Rate(tick); r != fix.Ratio(uint64(want), uint64(window)) {
			t.Fatalf("window %d, Last %d, Rate(%d): %d", window, lastTick, tick, r)
		}
	}
}

func TestWindows(t *testing.T) {
	for _, window := range []int{math.MinInt, -64, -1, 0, 65, 66, 1 << 32, 1<<32 + 1, math.MaxInt} {
		if m, e := New(window); m != nil || e != api.ErrRange {
			t.Errorf("New(%d): %v, %d", window, m, e)
		}
	}
	for window := 1; window <= 64; window++ {
		m := fresh(t, window)
		holds(t, m, nil, window, 0)
		sums(t, m, math.MaxInt, 0)
	}
}

func TestExample(t *testing.T) {
	m := fresh(t, 4)
	add(t, m, 1, 10, api.OK)
	add(t, m, 3, 20, api.OK)
	for tick, want := range map[int]int{0: 0, 1: 10, 2: 10, 3: 30, 4: 30, 5: 20, 6: 20, 7: 0, 8: 0} {
		sums(t, m, tick, want)
	}
	if m.Rate(3) != fix.Of(7)+fix.One/2 || m.Rate(5) != fix.Of(5) || m.Rate(7) != 0 {
		t.Errorf("Rate: %d, %d, %d", m.Rate(3), m.Rate(5), m.Rate(7))
	}
}

func TestAddEdges(t *testing.T) {
	m := fresh(t, 2)
	add(t, m, 0, 1<<20, api.OK)
	last(t, m, 0)
	sums(t, m, 0, 1<<20)
	sums(t, m, 1, 1<<20)
	sums(t, m, 2, 0)
	add(t, m, 0, 1, api.OK)
	sums(t, m, 0, 1<<20+1)
	add(t, m, api.MaxTick, 5, api.OK)
	add(t, m, api.MaxTick, 6, api.OK)
	last(t, m, api.MaxTick)
	sums(t, m, api.MaxTick, 11)
	sums(t, m, api.MaxTick+1, 11)
	sums(t, m, api.MaxTick+2, 0)
	sums(t, m, math.MaxInt, 0)
	add(t, m, api.MaxTick-1, 1, api.ErrStale)
	add(t, m, 0, 1, api.ErrStale)
	sums(t, m, api.MaxTick, 11)
}

func TestNothingRaisesLast(t *testing.T) {
	m := fresh(t, 3)
	add(t, m, 7, 4, api.OK)
	add(t, m, 9, 0, api.OK)
	last(t, m, 9)
	sums(t, m, 9, 4)
	add(t, m, 8, 1, api.ErrStale)
	add(t, m, 8, 0, api.ErrStale)
	add(t, m, 9, 2, api.OK)
	holds(t, m, []entry{{7, 4}, {9, 2}}, 3, 9)
	add(t, m, 1000, 0, api.OK)
	holds(t, m, nil, 3, 1000)
}

func TestRefusedChangesNothing(t *testing.T) {
	list := []entry{{90, 3}, {99, 5}, {100, 7}}
	m := fresh(t, 8)
	for _, e := range list {
		add(t, m, e.tick, e.n, api.OK)
	}
	for _, c := range []struct {
		tick, n int
		want    api.Errno
	}{
		{99, 1, api.ErrStale}, {0, 0, api.ErrStale}, {99, 1 << 20, api.ErrStale},
		{-1, 1, api.ErrRange}, {math.MinInt, 1, api.ErrRange},
		{api.MaxTick + 1, 1, api.ErrRange}, {math.MaxInt, 1, api.ErrRange},
		{100, -1, api.ErrRange}, {100, math.MinInt, api.ErrRange},
		{100, 1<<20 + 1, api.ErrRange}, {100, math.MaxInt, api.ErrRange},
		{200, -1, api.ErrRange}, {200, 1<<20 + 1, api.ErrRange},
		// Two would fit: the range is named first.
		{99, -1, api.ErrRange}, {99, 1<<20 + 1, api.ErrRange}, {-1, -1, api.ErrRange},
		{0, -1, api.ErrRange},
	} {
		add(t, m, c.tick, c.n, c.want)
		holds(t, m, list, 8, 100)
	}
}

func TestFarApartAndInARow(t *testing.T) {
	for window := 1; window <= 64; window++ {
		for _, step := range []int{1, 2, window - 1, window, window + 1, 63, 64, 65, 64 + window - 1, 64 + window, 64 + window + 1, 1000, 1 << 32} {
			if step < 1 {
				continue
			}
			m := fresh(t, window)
			var list []entry
			for i := range 150 {
				e := entry{i * step, i%7 + 1}
				add(t, m, e.tick, e.n, api.OK)
				list = append(list, e)
				if i%37 == 0 || i == 149 {
					holds(t, m, list, window, e.tick)
				}
			}
		}
	}
}

func TestLongRow(t *testing.T) {
	r := rand.New(rand.NewPCG(4, 1))
	for _, window := range []int{1, 2, 3, 31, 63, 64} {
		m := fresh(t, window)
		var list []entry
		tick := 0
		for range 1500 {
			tick += jump(r)
			e := entry{tick, amountOf(r)}
			add(t, m, e.tick, e.n, api.OK)
			list = append(list, e)
			holds(t, m, list, window, tick)
			if len(list) > 300 {
				list = within(list, tick)
			}
			if n := len(m.amounts); n > 64+window {
				t.Fatalf("window %d: %d amounts are kept", window, n)
			}
		}
	}
}

// within drops what no asked sum can hold: the oracle would be slow else.
func within(list []entry, tick int) []entry {
	kept := []entry{}
	for _, e := range list {
		if e.tick > tick-200 {
			kept = append(kept, e)
		}
	}
	return kept
}

func jump(r *rand.Rand) int {
	switch r.IntN(10) {
	case 0:
		return r.IntN(200)
	case 1, 2, 3, 4:
		return 0
	}
	return r.IntN(4)
}

func amountOf(r *rand.Rand) int {
	switch r.IntN(5) {
	case 0:
		return 0
	case 1:
		return 1 << 20
	}
	return r.IntN(1<<20 + 1)
}

func TestCopyGoesByItself(t *testing.T) {
	list := []entry{{5, 1}, {6, 2}, {70, 4}}
	m := fresh(t, 64)
	for _, e := range list {
		add(t, m, e.tick, e.n, api.OK)
	}
	c := m.Copy()
	if c == m {
		t.Fatal("Copy told the meter itself")
	}
	holds(t, c, list, 64, 70)
	add(t, c, 70, 8, api.OK)
	holds(t, m, list, 64, 70)
	add(t, m, 71, 16, api.OK)
	add(t, c, 71, 32, api.OK)
	add(t, m, 500, 64, api.OK)
	holds(t, m, []entry{{500, 64}}, 64, 500)
	holds(t, c, []entry{{5, 1}, {6, 2}, {70, 12}, {71, 32}}, 64, 71)
	add(t, c, 300, 9, api.OK)
	holds(t, c, []entry{{300, 9}}, 64, 300)
	holds(t, m, []entry{{500, 64}}, 64, 500)
	add(t, m, 499, 1, api.ErrStale)
	empty := fresh(t, 3).Copy()
	holds(t, empty, nil, 3, 0)
	add(t, empty, 2, 6, api.OK)
	if empty.Rate(2) != fix.Of(2) {
		t.Errorf("Rate of a copy: %d", empty.Rate(2))
	}
}

func TestRateOfMuch(t *testing.T) {
	m := fresh(t, 1)
	for range 4096 {
		add(t, m, 3, 1<<20, api.OK)
	}
	sums(t, m, 3, 1<<32)
	if m.Rate(3) != fix.Max {
		t.Errorf("Rate: %d", m.Rate(3))
	}
	m = fresh(t, 3)
	add(t, m, 3, 1, api.OK)
	if m.Rate(3) != 1431655765 {
		t.Errorf("Rate of a third: %d", m.Rate(3))
	}
}

// plainSmooth is the chapter's sentence in words of 64 bits, without package fix.
func plainSmooth(old, new uint64, k int) uint64 {
	if k < 1 {
		return new
	}
	if k > 63 {
		return old
	}
	low := old - old>>k
	sum := low + new>>k
	if sum < low {
		return math.MaxUint64
	}
	return sum
}

func TestSmooth(t *testing.T) {
	numbers := []fix.F{0, 1, 2, 3, 7, 8, fix.One - 1, fix.One, fix.One + 1, fix.Of(8), fix.Of(16), 1<<63 - 1, 1 << 63, 1<<63 + 1, fix.Max - 1, fix.Max}
	ks := []int{math.MinInt, -64, -1, 0, 1, 2, 3, 4, 31, 32, 33, 62, 63, 64, 65, 127, 128, 1 << 32, math.MaxInt}
	for _, old := range numbers {
		for _, young := range numbers {
			for _, k := range ks {
				smoothIs(t, old, young, k)
			}
		}
	}
	r := rand.New(rand.NewPCG(4, 2))
	for range 20000 {
		smoothIs(t, fix.F(r.Uint64()>>r.IntN(64)), fix.F(r.Uint64()>>r.IntN(64)), r.IntN(70)-2)
	}
}

func smoothIs(t *testing.T, old, young fix.F, k int) {
	t.Helper()
	got := Smooth(old, young, k)
	if want := fix.F(plainSmooth(uint64(old), uint64(young), k)); got != want {
		t.Errorf("Smooth(%d, %d, %d): %d, not %d", old, young, k, got, want)
	}
	// Halving rounds by less than one bit each, so the answer strays from between both by no more.
	if got < min(old, young).Sub(1) || got > max(old, young).Add(1) {
		t.Errorf("Smooth(%d, %d, %d): %d lies outside", old, young, k, got)
	}
	if old == young && got != old {
		t.Errorf("Smooth(%d, %d, %d): %d, though both are one", old, young, k, got)
	}
}

func TestSmoothExamples(t *testing.T) {
	for _, c := range []struct {
		old, young fix.F
		k          int
		want       fix.F
	}{
		{fix.Of(8), fix.Of(16), 1, fix.Of(12)}, {fix.Of(8), fix.Of(16), 3, fix.Of(9)}, {fix.Of(16), fix.Of(8), 3, fix.Of(15)},
		{fix.Of(8), fix.Of(16), 0, fix.Of(16)}, {fix.Of(8), fix.Of(16), -5, fix.Of(16)}, {fix.Of(8), fix.Of(16), 64, fix.Of(8)},
		{fix.Max, 0, 63, fix.Max - 1}, {0, fix.Max, 63, 1}, {fix.Max, fix.Max, 1, fix.Max}, {1, 1, 1, 1}, {0, 1, 1, 0}, {1, 0, 1, 1},
	} {
		if got := Smooth(c.old, c.young, c.k); got != c.want {
			t.Errorf("Smooth(%d, %d, %d): %d, not %d", c.old, c.young, c.k, got, c.want)
		}
	}
}

func FuzzMeter(f *testing.F) {
	f.Add(4, 1, 10, 3, 20, 5)
	f.Add(64, api.MaxTick, 1<<20, api.MaxTick+1, -1, math.MinInt)
	f.Add(65, -1, 0, 0, 0, math.MaxInt)
	f.Fuzz(func(t *testing.T, window, tick, n, tick2, n2, at int) {
		m, e := New(window)
		if (m == nil) != (e != api.OK) || (e == api.OK) != (window >= 1 && window <= 64) {
			t.Fatalf("New(%d): %v, %d", window, m, e)
		}
		if m == nil {
			return
		}
		var list []entry
		lastTick := 0
		for _, c := range []entry{{tick, n}, {tick2, n2}, {at, n}} {
			e := m.Add(c.tick, c.n)
			if e != plainError(c, lastTick) {
				t.Fatalf("Add(%d, %d): %d", c.tick, c.n, e)
			}
			if e == api.OK {
				list, lastTick = append(list, c), c.tick
			}
			m.Sum(at)
			m.Rate(at)
		}
		holds(t, m, list, window, lastTick)
		holds(t, m.Copy(), list, window, lastTick)
	})
}

func plainError(c entry, lastTick int) api.Errno {
	switch {
	case c.tick < 0 || c.tick > 1<<40 || c.n < 0 || c.n > 1<<20:
		return api.ErrRange
	case c.tick < lastTick:
		return api.ErrStale
	}
	return api.OK
}

func TestAnyArguments(t *testing.T) {
	edges := []int{math.MinInt, math.MinInt + 1, math.MinInt + 64, -api.MaxTick, -65, -64, -1, 0, 1, 63, 64, 65, 1 << 20, 1<<20 + 1, api.MaxTick - 1, api.MaxTick, api.MaxTick + 1, math.MaxInt - 1, math.MaxInt}
	for _, window := range []int{1, 2, 63, 64} {
		for _, tick := range edges {
			for _, n := range edges {
				m := fresh(t, window)
				m.Add(tick, n)
				for _, at := range edges {
					m.Sum(at)
					m.Rate(at)
					m.Copy().Add(at, n)
				}
			}
		}
	}
}
