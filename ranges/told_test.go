package ranges

import (
	"math"
	"slices"
	"testing"

	"terrace/api"
)

// ofIsRight is the chapter's sentence on stretches, told of each and of each two.
func ofIsRight(l [][2]int) bool {
	for i, r := range l {
		if r[0] < 0 || r[1] > most || r[0] >= r[1] {
			return false
		}
		for _, ahead := range l[:i] {
			if ahead[1] >= r[0] {
				return false
			}
		}
	}
	return true
}

func ofHolds(t testing.TB, l [][2]int) {
	t.Helper()
	handed := slices.Clone(l)
	s, ok := Of(l)
	if !slices.Equal(l, handed) {
		t.Fatalf("Of changed %v to %v", handed, l)
	}
	if ok != ofIsRight(l) || (s != nil) != ok {
		t.Fatalf("Of(%v): %v, %t", l, s, ok)
	}
	if ok {
		p := noNumbers()
		for _, r := range l {
			p.lay(r[0], r[1], true)
		}
		stretchesAre(t, s, l...)
		stretchesHold(t, s, p)
	}
}

// P8.2: a set of stretches that are right.
func TestOf(t *testing.T) {
	var many [][2]int
	for n := 0; n < most; n += 2 {
		many = append(many, [2]int{n, n + 1})
	}
	for _, l := range [][][2]int{
		nil, {}, {{0, 1}}, {{5, 9}}, {{0, most}}, {{most - 1, most}}, {{0, most - 1}}, {{1, most}},
		{{1, 3}, {4, 5}}, {{0, 1}, {2, 3}, {4, 5}}, {{0, 5}, {6, most}}, {{3, 4}, {100, 200}, {201, 202}, {5000, 6000}, {most - 1, most}},
		many,
	} {
		s, ok := Of(l)
		if s == nil || !ok {
			t.Fatalf("Of(%v): %v, %t", l, s, ok)
		}
		ofHolds(t, l)
		p := noNumbers()
		for _, r := range l {
			p.lay(r[0], r[1], true)
		}
		if len(l) < 100 {
			holds(t, s, p)
		}
		take(t, s, p, add(0, 3))
		take(t, s, p, cut(2, 7))
		stretchesHold(t, s, p)
	}
}

// P8.2: a list that is none of stretches.
func TestOfRefused(t *testing.T) {
	for _, l := range [][][2]int{
		{{1, 1}}, {{0, 0}}, {{most, most}}, {{5, 4}}, {{1, 0}}, {{-1, 2}}, {{-1, 0}}, {{-2, -1}}, {{0, most + 1}}, {{most, most + 1}},
		{{1, 3}, {3, 5}}, {{1, 3}, {2, 5}}, {{1, 5}, {2, 3}}, {{1, 5}, {1, 5}}, {{4, 5}, {1, 3}}, {{3, 5}, {1, 3}}, {{5, 9}, {0, 2}},
		{{1, 3}, {5, 5}}, {{1, 1}, {5, 6}}, {{1, 3}, {7, 5}}, {{3, 1}, {5, 6}}, {{-1, 3}, {5, 6}}, {{1, 3}, {5, most + 1}}, {{1, 3}, {-5, 9}},
		{{1, 3}, {5, 7}, {7, 9}}, {{1, 3}, {5, 7}, {6, 9}}, {{1, 3}, {5, 7}, {2, 4}}, {{1, 3}, {5, 7}, {9, 9}}, {{1, 3}, {9, 10}, {5, 7}},
		{{math.MinInt, 5}}, {{0, math.MaxInt}}, {{math.MinInt, math.MaxInt}}, {{math.MaxInt, math.MinInt}}, {{math.MaxInt, math.MaxInt}}, {{5, math.MinInt}}, {{0, 1<<32 + 5}},
	} {
		if s, ok := Of(l); s != nil || ok {
			t.Errorf("Of(%v): %v, %t", l, s, ok)
		}
		ofHolds(t, l)
	}
}

// P8.2: what is not in the set, of all and of parts.
func TestGaps(t *testing.T) {
	s, _ := made(t, [2]int{10, 20}, [2]int{30, 40})
	for _, c := range []struct {
		name string
		a, b int
		want [][2]int
	}{
		{"all", 0, most, [][2]int{{0, 10}, {20, 30}, {40, most}}},
		{"from begin to end", 10, 40, [][2]int{{20, 30}}},
		{"begins within", 15, 35, [][2]int{{20, 30}}},
		{"ends within", 5, 15, [][2]int{{5, 10}}},
		{"begins beside", 9, 12, [][2]int{{9, 10}}},
		{"begins at an end", 20, 25, [][2]int{{20, 25}}},
		{"begins at the last of one", 19, 25, [][2]int{{20, 25}}},
		{"ends at a begin", 5, 10, [][2]int{{5, 10}}},
		{"ends behind a begin", 5, 11, [][2]int{{5, 10}}},
		{"just one gap", 20, 30, [][2]int{{20, 30}}},
		{"a part of a gap", 22, 25, [][2]int{{22, 25}}},
		{"within a stretch", 12, 18, nil},
		{"a stretch", 10, 20, nil},
		{"behind all", 50, 60, [][2]int{{50, 60}}},
		{"ahead of all", 0, 4, [][2]int{{0, 4}}},
		{"nothing in a gap", 25, 25, nil},
		{"nothing in a stretch", 15, 15, nil},
		{"nothing at a begin", 10, 10, nil},
		{"nothing at an end", 20, 20, nil},
		{"nothing at 0", 0, 0, nil},
		{"nothing at MaxObject", most, most, nil},
		{"below 0", -1, 50, nil},
		{"above MaxObject", 0, most + 1, nil},
		{"the wrong way round", 30, 20, nil},
	} {
		if l := s.Gaps(c.a, c.b); !slices.Equal(l, c.want) {
			t.Errorf("%s: Gaps(%d, %d): %v, not %v", c.name, c.a, c.b, l, c.want)
		}
	}
	if l := New().Gaps(0, most); !slices.Equal(l, [][2]int{{0, most}}) {
		t.Errorf("Gaps of no numbers: %v", l)
	}
	full, _ := made(t, [2]int{0, most})
	if l := full.Gaps(0, most); len(l) != 0 {
		t.Errorf("Gaps of all numbers: %v", l)
	}
}

// P8.2: the least number from one on.
func TestFirst(t *testing.T) {
	s, _ := made(t, [2]int{3, 5}, [2]int{9, 10}, [2]int{most - 2, most})
	for _, c := range []struct {
		from, want int
		ok         bool
	}{
		{math.MinInt, 3, true}, {-1, 3, true}, {0, 3, true}, {2, 3, true}, {3, 3, true}, {4, 4, true}, {5, 9, true}, {6, 9, true}, {8, 9, true},
		{9, 9, true}, {10, most - 2, true}, {11, most - 2, true}, {most - 3, most - 2, true}, {most - 2, most - 2, true}, {most - 1, most - 1, true},
		{most, 0, false}, {most + 1, 0, false}, {math.MaxInt, 0, false},
	} {
		if n, ok := s.First(c.from); n != c.want || ok != c.ok {
			t.Errorf("First(%d): %d, %t", c.from, n, ok)
		}
	}
	for _, from := range append([]int{0, 1, 100}, outside...) {
		if n, ok := New().First(from); n != 0 || ok {
			t.Errorf("First(%d) of no numbers: %d, %t", from, n, ok)
		}
	}
	zero, _ := made(t, [2]int{0, 1})
	if n, ok := zero.First(-5); n != 0 || !ok {
		t.Errorf("First(-5): %d, %t", n, ok)
	}
	if n, ok := zero.First(1); n != 0 || ok {
		t.Errorf("First(1): %d, %t", n, ok)
	}
}

// P8.2: all numbers, rising, as far as they are asked, and as they are when the loop runs.
func TestAll(t *testing.T) {
	s, p := made(t, [2]int{0, 3}, [2]int{7, 8}, [2]int{most - 2, most})
	want := []int{0, 1, 2, 7, most - 2, most - 1}
	all := s.All()
	for range 2 {
		if l := slices.Collect(all); !slices.Equal(l, want) {
			t.Errorf("All: %v", l)
		}
	}
	for upto := 1; upto <= len(want); upto++ {
		var l []int
		for n := range all {
			l = append(l, n)
			if len(l) == upto {
				break
			}
		}
		if !slices.Equal(l, want[:upto]) {
			t.Errorf("All broken off behind %d: %v", upto, l)
		}
	}
	asked := 0
	all(func(int) bool { asked++; return false })
	if asked != 1 {
		t.Errorf("All went on behind false: %d", asked)
	}
	holds(t, s, p)
	s.Cut(0, 2)
	s.Add(5, 6)
	if l := slices.Collect(all); !slices.Equal(l, []int{2, 5, 7, most - 2, most - 1}) {
		t.Errorf("All behind a change: %v", l)
	}
	none := New()
	for n := range none.All() {
		t.Errorf("All of no numbers: %d", n)
	}
	later := none.All()
	none.Add(4, 5)
	if l := slices.Collect(later); !slices.Equal(l, []int{4}) {
		t.Errorf("All: %v", l)
	}
}

// P8.2: a copy is the same, and goes its own way.
func TestCopy(t *testing.T) {
	for _, base := range [][][2]int{nil, {{0, most}}, {{10, 20}, {30, 40}, {50, 60}}} {
		for _, x := range []step{add(0, 5), add(15, 35), add(20, 30), add(0, most), cut(12, 14), cut(35, 55), cut(30, 40), cut(0, most)} {
			s, p := made(t, base...)
			c, q := s.Copy(), slices.Clone(p)
			if c == s {
				t.Fatal("Copy told the set itself")
			}
			holds(t, c, q)
			take(t, c, q, x)
			holds(t, c, q)
			holds(t, s, p)
			take(t, s, p, add(70, 80))
			take(t, s, p, cut(11, 12))
			holds(t, c, q)
			take(t, c, q, add(90, 91))
			holds(t, s, p)
		}
	}
}

// scrawl overwrites a list, its spare room too.
func scrawl(l [][2]int) {
	l = l[:cap(l)]
	for i := range l {
		l[i] = [2]int{-7, 1 << 20}
	}
}

// What is handed in is neither changed nor kept.
func TestHandedIn(t *testing.T) {
	room := [][2]int{{10, 20}, {30, 40}, {50, 60}, {70, 80}}
	before := slices.Clone(room)
	s, ok := Of(room[:2])
	if !ok {
		t.Fatal("Of refused what is right")
	}
	p := noNumbers()
	p.lay(10, 20, true)
	p.lay(30, 40, true)
	for _, x := range []step{add(45, 46), add(0, 1), cut(12, 13), add(100, 200), cut(30, 40)} {
		take(t, s, p, x)
		if !slices.Equal(room, before) {
			t.Fatalf("what was handed in: %v, not %v", room, before)
		}
	}
	scrawl(room)
	holds(t, s, p)
	wrong := [][2]int{{1, 3}, {3, 5}, {9, 9}}
	Of(wrong)
	if !slices.Equal(wrong, [][2]int{{1, 3}, {3, 5}, {9, 9}}) {
		t.Errorf("Of changed what it refused: %v", wrong)
	}
}

// What is told is new memory, its spare room too.
func TestTold(t *testing.T) {
	s, p := made(t, [2]int{10, 20}, [2]int{30, 40}, [2]int{50, 60}, [2]int{70, 80}, [2]int{90, 95})
	// A cut leaves spare room within the set.
	take(t, s, p, cut(70, 100))
	ask := []func() [][2]int{s.Stretches, func() [][2]int { return s.Gaps(0, 100) }, func() [][2]int { return s.Gaps(25, 55) }}
	for i, tell := range ask {
		for j, other := range ask {
			l, m := tell(), other()
			want := slices.Clone(m)
			scrawl(l)
			if !slices.Equal(m, want) {
				t.Fatalf("answers %d and %d share memory: %v", i, j, m)
			}
			holds(t, s, p)
		}
	}
	l, g := s.Stretches(), s.Gaps(0, 100)
	for _, x := range []step{add(20, 25), cut(10, 12), add(0, 1), cut(0, api.MaxObject), add(5, 9)} {
		take(t, s, p, x)
	}
	if !slices.Equal(l, [][2]int{{10, 20}, {30, 40}, {50, 60}}) || !slices.Equal(g, [][2]int{{0, 10}, {20, 30}, {40, 50}, {60, 100}}) {
		t.Errorf("a change of the set shows in what was told: %v, %v", l, g)
	}
	c := s.Copy()
	scrawl(c.Stretches())
	scrawl(s.Stretches())
	holds(t, c, p)
	holds(t, s, p)
}
