package ranges

import (
	"math"
	"math/rand/v2"
	"slices"
	"testing"

	"terrace/api"
)

const most = api.MaxObject

func stretchesAre(t testing.TB, s *Set, want ...[2]int) {
	t.Helper()
	if l := s.Stretches(); !slices.Equal(l, want) {
		t.Fatalf("Stretches: %v, not %v", l, want)
	}
}

// P8.1: a new set has no numbers, and is another one each time.
func TestNew(t *testing.T) {
	s, other := New(), New()
	holds(t, s, noNumbers())
	stretchesAre(t, s)
	if s.Len() != 0 || s.Has(0) {
		t.Errorf("Len: %d, Has(0): %t", s.Len(), s.Has(0))
	}
	s.Add(0, 5)
	holds(t, other, noNumbers())
}

func TestExample(t *testing.T) {
	s := New()
	for _, c := range []struct{ a, b, n int }{{0, 3, 3}, {5, 8, 3}, {3, 5, 2}} {
		if n, e := s.Add(c.a, c.b); n != c.n || e != api.OK {
			t.Errorf("Add(%d, %d): %d, %d", c.a, c.b, n, e)
		}
	}
	stretchesAre(t, s, [2]int{0, 8})
	if l := s.Gaps(0, 10); !slices.Equal(l, [][2]int{{8, 10}}) {
		t.Errorf("Gaps(0, 10): %v", l)
	}
}

// P8.1: each way in which what is added can lie to what is there.
func TestAdd(t *testing.T) {
	base := [][2]int{{10, 20}, {30, 40}, {50, 60}}
	for _, c := range []struct {
		name string
		a, b int
		n    int
		want [][2]int
	}{
		{"ahead of all", 2, 5, 3, [][2]int{{2, 5}, {10, 20}, {30, 40}, {50, 60}}},
		{"behind all", 62, 65, 3, [][2]int{{10, 20}, {30, 40}, {50, 60}, {62, 65}}},
		{"between", 24, 26, 2, [][2]int{{10, 20}, {24, 26}, {30, 40}, {50, 60}}},
		{"one off on both sides", 21, 29, 8, [][2]int{{10, 20}, {21, 29}, {30, 40}, {50, 60}}},
		{"touches a begin", 25, 30, 5, [][2]int{{10, 20}, {25, 40}, {50, 60}}},
		{"touches an end", 40, 45, 5, [][2]int{{10, 20}, {30, 45}, {50, 60}}},
		{"touches on both sides", 20, 30, 10, [][2]int{{10, 40}, {50, 60}}},
		{"overlaps a begin", 25, 33, 5, [][2]int{{10, 20}, {25, 40}, {50, 60}}},
		{"overlaps an end", 36, 45, 5, [][2]int{{10, 20}, {30, 45}, {50, 60}}},
		{"overlaps two", 15, 35, 10, [][2]int{{10, 40}, {50, 60}}},
		{"lies within", 32, 38, 0, base},
		{"is there already", 30, 40, 0, base},
		{"is there at its begin", 30, 31, 0, base},
		{"is there at its end", 39, 40, 0, base},
		{"covers one", 28, 42, 4, [][2]int{{10, 20}, {28, 42}, {50, 60}}},
		{"covers two and what lies between", 10, 40, 10, [][2]int{{10, 40}, {50, 60}}},
		{"covers all", 5, 65, 30, [][2]int{{5, 65}}},
		{"covers all from begin to end", 10, 60, 20, [][2]int{{10, 60}}},
		{"covers the one in the middle, and touches those beside", 20, 50, 20, [][2]int{{10, 60}}},
		{"everything", 0, most, most - 30, [][2]int{{0, most}}},
		{"nothing, between", 25, 25, 0, base},
		{"nothing, at a begin", 30, 30, 0, base},
		{"nothing, at an end", 40, 40, 0, base},
		{"nothing, within", 35, 35, 0, base},
		{"nothing, at 0", 0, 0, 0, base},
		{"nothing, at MaxObject", most, most, 0, base},
		{"the least", 0, 1, 1, [][2]int{{0, 1}, {10, 20}, {30, 40}, {50, 60}}},
		{"the greatest", most - 1, most, 1, [][2]int{{10, 20}, {30, 40}, {50, 60}, {most - 1, most}}},
	} {
		s, p := made(t, base...)
		if n, e := s.Add(c.a, c.b); n != c.n || e != api.OK {
			t.Errorf("%s: Add(%d, %d): %d, %d", c.name, c.a, c.b, n, e)
		}
		p.lay(c.a, c.b, true)
		stretchesAre(t, s, c.want...)
		holds(t, s, p)
		if n, e := s.Add(c.a, c.b); n != 0 || e != api.OK {
			t.Errorf("%s: Add(%d, %d) again: %d, %d", c.name, c.a, c.b, n, e)
		}
		stretchesAre(t, s, c.want...)
	}
}

// P8.1: each way in which what is cut can lie to what is there.
func TestCut(t *testing.T) {
	base := [][2]int{{10, 20}, {30, 40}, {50, 60}}
	for _, c := range []struct {
		name string
		a, b int
		n    int
		want [][2]int
	}{
		{"ahead of all", 2, 10, 0, base},
		{"behind all", 60, 65, 0, base},
		{"between", 20, 30, 0, base},
		{"in the middle", 33, 36, 3, [][2]int{{10, 20}, {30, 33}, {36, 40}, {50, 60}}},
		{"one in the middle", 34, 35, 1, [][2]int{{10, 20}, {30, 34}, {35, 40}, {50, 60}}},
		{"all but its ends", 31, 39, 8, [][2]int{{10, 20}, {30, 31}, {39, 40}, {50, 60}}},
		{"at its begin", 30, 33, 3, [][2]int{{10, 20}, {33, 40}, {50, 60}}},
		{"about its begin", 28, 33, 3, [][2]int{{10, 20}, {33, 40}, {50, 60}}},
		{"at its end", 36, 40, 4, [][2]int{{10, 20}, {30, 36}, {50, 60}}},
		{"about its end", 36, 44, 4, [][2]int{{10, 20}, {30, 36}, {50, 60}}},
		{"just one", 30, 40, 10, [][2]int{{10, 20}, {50, 60}}},
		{"one and about it", 20, 50, 10, [][2]int{{10, 20}, {50, 60}}},
		{"the first", 0, 20, 10, [][2]int{{30, 40}, {50, 60}}},
		{"the last", 50, most, 10, [][2]int{{10, 20}, {30, 40}}},
		{"parts of two", 15, 35, 10, [][2]int{{10, 15}, {35, 40}, {50, 60}}},
		{"parts of two and all between", 15, 55, 20, [][2]int{{10, 15}, {55, 60}}},
		{"all", 10, 60, 30, nil},
		{"everything", 0, most, 30, nil},
		{"nothing, between", 25, 25, 0, base},
		{"nothing, at a begin", 30, 30, 0, base},
		{"nothing, at an end", 40, 40, 0, base},
		{"nothing, within", 35, 35, 0, base},
		{"nothing, at 0", 0, 0, 0, base},
		{"nothing, at MaxObject", most, most, 0, base},
		{"the least", 0, 1, 0, base},
		{"the greatest", most - 1, most, 0, base},
	} {
		s, p := made(t, base...)
		if n, e := s.Cut(c.a, c.b); n != c.n || e != api.OK {
			t.Errorf("%s: Cut(%d, %d): %d, %d", c.name, c.a, c.b, n, e)
		}
		p.lay(c.a, c.b, false)
		stretchesAre(t, s, c.want...)
		holds(t, s, p)
		if n, e := s.Cut(c.a, c.b); n != 0 || e != api.OK {
			t.Errorf("%s: Cut(%d, %d) again: %d, %d", c.name, c.a, c.b, n, e)
		}
		stretchesAre(t, s, c.want...)
	}
}

// P8.1: a set's bounds, with nothing there, and with all.
func TestBounds(t *testing.T) {
	s, p := New(), noNumbers()
	for _, c := range []step{
		cut(0, most), cut(0, 1), cut(most-1, most), cut(7, 7),
		add(0, 0), add(most, most), add(0, most), add(0, most), add(0, 1), add(most-1, most), add(5, 5),
		cut(5, 5), cut(0, 1), cut(most-1, most), cut(100, 200), add(0, 1), add(most-1, most), add(100, 200),
		cut(0, most), cut(0, most), add(most-1, most), add(0, 1), cut(most-1, most), cut(0, 1),
	} {
		take(t, s, p, c)
		holds(t, s, p)
	}
}

var wrongPairs = [][2]int{
	{-1, 0}, {-1, 5}, {-1, most}, {-5, -1}, {-1, -1}, {0, most + 1}, {5, most + 1}, {most, most + 1}, {most + 1, most + 1}, {-1, most + 1},
	{1, 0}, {5, 4}, {15, 12}, {20, 10}, {most, 0}, {most, most - 1}, {most + 1, most}, {most + 1, 5}, {0, -1}, {15, -1},
	{math.MinInt, 5}, {math.MinInt, math.MinInt}, {math.MinInt, math.MaxInt}, {math.MaxInt, math.MinInt}, {5, math.MinInt}, {0, math.MinInt},
	{5, math.MaxInt}, {0, math.MaxInt}, {math.MaxInt, math.MaxInt}, {math.MaxInt, 5}, {1 << 32, 1<<32 + 5}, {0, 1 << 32}, {0, 1<<32 + 5},
}

// P8.1: what is refused changes nothing, and tells 0; Gaps tells nothing there (P8.2).
func TestRefused(t *testing.T) {
	for _, base := range [][][2]int{nil, {{10, 20}, {30, 40}}, {{0, most}}} {
		s, p := made(t, base...)
		for _, c := range wrongPairs {
			if n, e := s.Add(c[0], c[1]); n != 0 || e != api.ErrRange {
				t.Errorf("Add(%d, %d): %d, %d", c[0], c[1], n, e)
			}
			stretchesAre(t, s, base...)
			if n, e := s.Cut(c[0], c[1]); n != 0 || e != api.ErrRange {
				t.Errorf("Cut(%d, %d): %d, %d", c[0], c[1], n, e)
			}
			stretchesAre(t, s, base...)
			if l := s.Gaps(c[0], c[1]); len(l) != 0 {
				t.Errorf("Gaps(%d, %d): %v", c[0], c[1], l)
			}
		}
		holds(t, s, p)
	}
}

// P8.1: Has at each number beside a begin and an end, below 0 and above MaxObject.
func TestHas(t *testing.T) {
	s, _ := made(t, [2]int{0, 2}, [2]int{5, 6}, [2]int{10, 20}, [2]int{most - 2, most})
	for n, want := range map[int]bool{
		math.MinInt: false, -1: false, 0: true, 1: true, 2: false, 3: false, 4: false, 5: true, 6: false, 7: false,
		9: false, 10: true, 11: true, 18: true, 19: true, 20: false, 21: false,
		most - 3: false, most - 2: true, most - 1: true, most: false, most + 1: false, math.MaxInt: false,
	} {
		if s.Has(n) != want {
			t.Errorf("Has(%d): %t", n, s.Has(n))
		}
	}
}

// few is how many numbers the sets of TestAllFew may have.
const few = 6

// TestAllFew tries every set of a few numbers side by side, at the begin, in the middle and at the end of what a set may have, with every Add and Cut about there.
func TestAllFew(t *testing.T) {
	for _, low := range []int{0, 5000, most - few} {
		p := noNumbers()
		for mask := range 1 << few {
			for i := range few {
				p[low+i] = mask>>i&1 == 1
			}
			s, ok := Of(p.runs(low, low+few, true))
			if !ok {
				t.Fatalf("Of: refused %v", p.runs(low, low+few, true))
			}
			fewHold(t, s, p, low)
			everyStep(t, s, p, low)
		}
	}
}

func everyStep(t *testing.T, s *Set, p plain, low int) {
	t.Helper()
	now := make([]bool, few)
	copy(now, p[low:])
	for a := max(low-1, 0); a <= min(low+few+1, most); a++ {
		for b := a; b <= min(low+few+1, most); b++ {
			for _, in := range []bool{true, false} {
				c := s.Copy()
				take(t, c, p, step{in, a, b})
				fewHold(t, c, p, low)
				clear(p[max(low-1, 0):min(low+few+1, most)])
				copy(p[low:], now)
			}
		}
	}
	fewHold(t, s, p, low)
}

// fewHold asks what lies about low: nothing else is in the set.
func fewHold(t *testing.T, s *Set, p plain, low int) {
	t.Helper()
	from, to := max(low-2, 0), min(low+few+2, most)
	want := p.runs(from, to, true)
	stretchesAre(t, s, want...)
	n := 0
	for i := from - 1; i <= to+1; i++ {
		if s.Has(i) != p.has(i) {
			t.Fatalf("Has(%d): %t, of %v", i, s.Has(i), want)
		}
		if p.has(i) {
			n++
		}
		next := i
		for next <= to && !p.has(next) {
			next++
		}
		if first, ok := s.First(i); ok != (next <= to) || ok && first != next || !ok && first != 0 {
			t.Fatalf("First(%d): %d, %t, of %v", i, first, ok, want)
		}
		for j := i; j <= to; j++ {
			if l := s.Gaps(i, j); !slices.Equal(l, p.runs(i, j, false)) {
				t.Fatalf("Gaps(%d, %d): %v, of %v", i, j, l, want)
			}
		}
	}
	if s.Len() != n || len(slices.Collect(s.All())) != n {
		t.Fatalf("Len: %d, All: %v, of %v", s.Len(), slices.Collect(s.All()), want)
	}
}

// TestLongRow goes on with one set for long, in few numbers and in many.
func TestLongRow(t *testing.T) {
	r := rand.New(rand.NewPCG(8, 1))
	for _, top := range []int{12, 100, most} {
		s, p := New(), noNumbers()
		for i := range 1500 {
			a := r.IntN(top + 1)
			b := min(top, a+r.IntN(top/6+2))
			take(t, s, p, step{r.IntN(2) == 0, a, b})
			stretchesHold(t, s, p)
			if i%150 == 0 {
				holds(t, s, p)
			}
		}
		holds(t, s, p)
	}
}

// TestMostStretches has every second number, as many stretches as there can be.
func TestMostStretches(t *testing.T) {
	s, p := New(), noNumbers()
	for n := 0; n < most; n += 2 {
		// From both ends at once, so that some are laid in the middle of the list.
		at := n
		if n%4 == 2 {
			at = most - n
		}
		take(t, s, p, add(at, at+1))
	}
	stretchesHold(t, s, p)
	numbersHold(t, s, p)
	if len(s.Stretches()) != most/2 || s.Len() != most/2 || len(s.Gaps(0, most)) != most/2 {
		t.Errorf("%d stretches, %d numbers, %d gaps", len(s.Stretches()), s.Len(), len(s.Gaps(0, most)))
	}
	c := s.Copy()
	if n, e := s.Add(0, most); n != most/2 || e != api.OK {
		t.Errorf("Add: %d, %d", n, e)
	}
	stretchesAre(t, s, [2]int{0, most})
	if n, e := c.Cut(1, most-1); n != most/2-1 || e != api.OK {
		t.Errorf("Cut: %d, %d", n, e)
	}
	stretchesAre(t, c, [2]int{0, 1})
}

func FuzzSet(f *testing.F) {
	f.Add(0, 3, 5, 8, 3, 5, 10)
	f.Add(0, most, 5, 8, 3, 5, most)
	f.Add(-1, 3, math.MinInt, math.MaxInt, most, most+1, math.MaxInt)
	f.Fuzz(func(t *testing.T, a, b, c, d, e, g, at int) {
		s, p := New(), noNumbers()
		for _, x := range []step{add(a, b), add(c, d), cut(e, g), add(at, b), cut(c, at)} {
			take(t, s, p, x)
			stretchesHold(t, s, p)
		}
		holds(t, s, p)
		holds(t, s.Copy(), p)
		ofHolds(t, [][2]int{{a, b}, {c, d}, {e, g}})
		first, ok := s.First(at)
		if want, some := p.first(at); first != want || ok != some {
			t.Fatalf("First(%d): %d, %t", at, first, ok)
		}
		if l := s.Gaps(at, d); !slices.Equal(l, p.runs(at, d, false)) {
			t.Fatalf("Gaps(%d, %d): %v", at, d, l)
		}
	})
}

// P1: none panics, whatever it is given.
func TestAnyArguments(t *testing.T) {
	numbers := append([]int{0, 1, 2, 3, 9, 10, 15, most - 2, most - 1}, outside...)
	for _, a := range numbers {
		for _, b := range numbers {
			s, p := New(), noNumbers()
			take(t, s, p, add(3, 10))
			take(t, s, p, add(a, b))
			stretchesHold(t, s, p)
			take(t, s, p, cut(b, a))
			take(t, s, p, cut(a, b))
			stretchesHold(t, s, p)
			gapsHold(t, s, p)
			firstsHold(t, s, p)
			ofHolds(t, [][2]int{{a, b}})
			ofHolds(t, [][2]int{{a, 3}, {b, 10}})
			ofHolds(t, [][2]int{{0, a}, {b, most}})
		}
	}
}
