package ranges

import (
	"math"
	"slices"
	"testing"

	"terrace/api"
)

// plain is one bool a number: what a set is held against.
type plain []bool

func noNumbers() plain { return make(plain, api.MaxObject) }

// refuses is the chapter's sentence on Add's and Cut's error.
func refuses(a, b int) bool { return a < 0 || b > api.MaxObject || a > b }

// lay puts each number from a up to b in, or out, and tells how many changed.
func (p plain) lay(a, b int, in bool) (int, api.Errno) {
	if refuses(a, b) {
		return 0, api.ErrRange
	}
	n := 0
	for i := a; i < b; i++ {
		if p[i] != in {
			p[i] = in
			n++
		}
	}
	return n, api.OK
}

func (p plain) has(n int) bool { return n >= 0 && n < len(p) && p[n] }

// runs are the longest stretches of the numbers from a up to b that are all in, or all out.
func (p plain) runs(a, b int, in bool) [][2]int {
	var list [][2]int
	if refuses(a, b) {
		return nil
	}
	for i := a; i < b; i++ {
		switch end := len(list) - 1; {
		case p[i] != in:
		case end >= 0 && list[end][1] == i:
			list[end][1]++
		default:
			list = append(list, [2]int{i, i + 1})
		}
	}
	return list
}

func (p plain) numbers() []int {
	var list []int
	for i, in := range p {
		if in {
			list = append(list, i)
		}
	}
	return list
}

func (p plain) first(from int) (int, bool) {
	for i, in := range p {
		if in && i >= from {
			return i, true
		}
	}
	return 0, false
}

// outside are numbers that no set has.
var outside = []int{math.MinInt, math.MinInt + 1, -api.MaxObject, -2, -1, api.MaxObject, api.MaxObject + 1, api.MaxObject + 2, 1 << 32, math.MaxInt - 1, math.MaxInt}

// holds asks a set all that it can tell.
func holds(t testing.TB, s *Set, p plain) {
	t.Helper()
	stretchesHold(t, s, p)
	numbersHold(t, s, p)
	firstsHold(t, s, p)
	gapsHold(t, s, p)
}

func stretchesHold(t testing.TB, s *Set, p plain) {
	t.Helper()
	l := s.Stretches()
	for i, r := range l {
		if r[0] >= r[1] || r[0] < 0 || r[1] > api.MaxObject || i > 0 && r[0] <= l[i-1][1] {
			t.Fatalf("Stretches: %v is not right, behind %v", r, l[:i])
		}
	}
	if want := p.runs(0, api.MaxObject, true); !slices.Equal(l, want) {
		t.Fatalf("Stretches: %v, not %v", l, want)
	}
}

func numbersHold(t testing.TB, s *Set, p plain) {
	t.Helper()
	for n := range api.MaxObject {
		if s.Has(n) != p[n] {
			t.Fatalf("Has(%d): %t, of %v", n, s.Has(n), s.Stretches())
		}
	}
	for _, n := range outside {
		if s.Has(n) {
			t.Fatalf("Has(%d), of %v", n, s.Stretches())
		}
	}
	want := p.numbers()
	if n := s.Len(); n != len(want) {
		t.Fatalf("Len: %d, not %d", n, len(want))
	}
	if l := slices.Collect(s.All()); !slices.Equal(l, want) {
		t.Fatalf("All: %v, not %v", l, want)
	}
}

// edges are the numbers at and beside each stretch's begin and end, one within it, and those about a set's bounds.
func (p plain) edges() []int {
	list := []int{0, 1, api.MaxObject - 1}
	for _, r := range p.runs(0, api.MaxObject, true) {
		list = append(list, r[0]-1, r[0], r[0]+1, (r[0]+r[1])/2, r[1]-1, r[1], r[1]+1)
	}
	list = append(list, outside...)
	slices.Sort(list)
	return slices.Compact(list)
}

func firstsHold(t testing.TB, s *Set, p plain) {
	t.Helper()
	for _, from := range p.edges() {
		want, some := p.first(from)
		if n, ok := s.First(from); n != want || ok != some {
			t.Fatalf("First(%d): %d, %t, not %d, %t, of %v", from, n, ok, want, some, s.Stretches())
		}
	}
}

func gapsHold(t testing.TB, s *Set, p plain) {
	t.Helper()
	list := p.edges()
	for _, a := range list {
		for _, b := range list {
			if l, want := s.Gaps(a, b), p.runs(a, b, false); !slices.Equal(l, want) {
				t.Fatalf("Gaps(%d, %d): %v, not %v, of %v", a, b, l, want, s.Stretches())
			}
		}
	}
}

// step is an Add or a Cut.
type step struct {
	in   bool
	a, b int
}

func add(a, b int) step { return step{true, a, b} }
func cut(a, b int) step { return step{false, a, b} }

// take does a step to both, and holds what each tells of it against the other.
func take(t testing.TB, s *Set, p plain, c step) {
	t.Helper()
	name, call := "Cut", s.Cut
	if c.in {
		name, call = "Add", s.Add
	}
	before := s.Stretches()
	n, e := call(c.a, c.b)
	if want, wrong := p.lay(c.a, c.b, c.in); n != want || e != wrong {
		t.Fatalf("%s(%d, %d): %d, %d, not %d, %d, of %v", name, c.a, c.b, n, e, want, wrong, before)
	}
}

// made is a set of some Adds, and its numbers.
func made(t testing.TB, l ...[2]int) (*Set, plain) {
	t.Helper()
	s, p := New(), noNumbers()
	for _, r := range l {
		take(t, s, p, add(r[0], r[1]))
	}
	holds(t, s, p)
	return s, p
}
