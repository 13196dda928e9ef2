package wheel

import (
	"math"
	"slices"
	"testing"

	"terrace/api"
)

func turnTells(t testing.TB, w *Wheel, now int, want ...[2]int) {
	t.Helper()
	if told := ask(w.Turn(now), whole); !slices.Equal(told, want) {
		t.Fatalf("Turn(%d): %v, not %v", now, told, want)
	}
}

// P9.2: the chapter's example.
func TestExample(t *testing.T) {
	w := New()
	errnoIs(t, "Set", w.Set(1, 5), api.OK)
	errnoIs(t, "Set", w.Set(2, 3), api.OK)
	turnTells(t, w, 4, [2]int{2, 3})
	allIs(t, w, [2]int{1, 5})
	turnTells(t, w, 9, [2]int{1, 5})
	allIs(t, w)
	if w.Now() != 9 {
		t.Fatalf("Now: %d", w.Now())
	}
}

// P9.2: the time goes on, never back, and never past 2 MaxTick.
func TestTime(t *testing.T) {
	for _, first := range edges {
		for _, second := range edges {
			w := New()
			want := 0
			for _, now := range []int{first, second} {
				want = max(want, min(now, end))
				for range w.Turn(now) {
					t.Fatal("Turn tells a timer, and there is none")
				}
				if w.Now() != want {
					t.Fatalf("Now behind Turn(%d), Turn(%d): %d, not %d", first, second, w.Now(), want)
				}
			}
			run(t, set(1, 0), set(2, 64), set(3, end), turnUpTo(first, 1), turn(second), turn(first), turn(math.MaxInt))
		}
	}
}

// P9.2: a time past 2 MaxTick is 2 MaxTick, and all timers are due at it.
func TestTimePastTheEnd(t *testing.T) {
	for _, now := range []int{end, end + 1, math.MaxInt} {
		w := New()
		errnoIs(t, "Set", w.Set(1, end), api.OK)
		turnTells(t, w, end-1)
		turnTells(t, w, now, [2]int{1, end})
		if w.Now() != end {
			t.Fatalf("Now behind Turn(%d): %d", now, w.Now())
		}
	}
}

// P9.2: a time that is earlier, or the same, tells what was set since, at the time that it is.
func TestTurnEarlier(t *testing.T) {
	for _, now := range []int{math.MinInt, -1, 0, 5, 99, 100} {
		w, _ := run(t, set(9, 101), turn(100), set(1, 100), set(2, 3), set(3, 101))
		turnTells(t, w, now, [2]int{2, 3}, [2]int{1, 100})
		allIs(t, w, [2]int{3, 101}, [2]int{9, 101})
		if w.Now() != 100 {
			t.Fatalf("Now behind Turn(%d): %d", now, w.Now())
		}
	}
}

// P9.2: the earlier ones first, of one tick the lesser number first, whichever was set first and in whichever spoke.
func TestOrder(t *testing.T) {
	timers := [][2]int{
		{math.MaxInt, 0}, {math.MinInt, 6}, {-5, 6}, {0, 6}, {3, 6}, {math.MaxInt - 1, 6}, {2, 7}, {-6, 69}, {-9, 70}, {1, 70},
		{-10, 71}, {8, 134}, {7, api.MaxTick}, {6, end - 64}, {5, end - 1}, {-4, end}, {4, end},
	}
	for turns := range len(timers) {
		for _, back := range []bool{false, true} {
			w := New()
			for i := range timers {
				x := timers[(i*5+turns)%len(timers)]
				if back {
					x = timers[len(timers)-1-(i+turns)%len(timers)]
				}
				errnoIs(t, "Set", w.Set(x[0], x[1]), api.OK)
			}
			allIs(t, w, timers...)
			for i, x := range timers {
				if tick, ok := w.Next(); tick != x[1] || !ok {
					t.Fatalf("Next: %d, %t, not %d", tick, ok, x[1])
				}
				if told := ask(w.Turn(end), 1); !slices.Equal(told, timers[i:i+1]) {
					t.Fatalf("Turn: %v, not %v", told, x)
				}
			}
			if tick, ok := w.Next(); tick != 0 || ok {
				t.Fatalf("Next: %d, %t", tick, ok)
			}
		}
	}
}

// P9.2: those that are due at the time, and no others: one timer at each tick, a Turn at each time.
func TestDue(t *testing.T) {
	for now := range 200 {
		w, p := New(), noTimers()
		for i := range 200 {
			take(t, w, p, set(i*7%200, i))
		}
		take(t, w, p, turn(now))
		holds(t, w, p)
		if w.Len() != 199-now {
			t.Fatalf("Len behind Turn(%d): %d", now, w.Len())
		}
	}
	w, p := New(), noTimers()
	for now := range 300 {
		take(t, w, p, set(now, now+now*now%150))
		take(t, w, p, turn(now))
		tellsSame(t, w, p)
	}
}

// P9.2: a Turn that is broken off at each place tells no more, leaves the rest, and is taken up again.
func TestBrokenOff(t *testing.T) {
	const timers = 40
	for most := 1; most <= timers+1; most++ {
		for _, again := range []int{1, 3, whole} {
			w, p := New(), noTimers()
			for i := range timers {
				take(t, w, p, set(i*11%timers-7, i*i%90))
			}
			take(t, w, p, set(1000, 200))
			for p.ticks[1000] == 200 && len(p.ticks) > 1 {
				take(t, w, p, turnUpTo(100, most))
				holds(t, w, p)
				take(t, w, p, turnUpTo(5, again))
				holds(t, w, p)
			}
			allIs(t, w, [2]int{1000, 200})
		}
	}
}

// P9.2: behind a break nothing is told any more, and each is told once.
func TestNoYieldBehindABreak(t *testing.T) {
	for stops := 1; stops <= 5; stops++ {
		w, _ := run(t, set(1, 1), set(2, 1), set(3, 65), set(4, 66), set(5, 67))
		calls := 0
		w.Turn(70)(func(id, tick int) bool {
			calls++
			return calls < stops
		})
		if calls != stops || w.Len() != 5-stops {
			t.Fatalf("%d calls, not %d; %d left", calls, stops, w.Len())
		}
	}
}

// P9.2: a Turn that is not ranged over moves the time, and no timer goes; the next loop tells all that are due.
func TestNotRangedOver(t *testing.T) {
	w, p := run(t, set(1, 5), set(2, 3), turnNotRanged(4))
	allIs(t, w, [2]int{2, 3}, [2]int{1, 5})
	if w.Now() != 4 {
		t.Fatalf("Now: %d", w.Now())
	}
	for _, s := range []step{turnNotRanged(9), turnNotRanged(2), turn(0), turnNotRanged(math.MaxInt), turnNotRanged(math.MinInt)} {
		take(t, w, p, s)
		holds(t, w, p)
	}
}

// P9.2 and what is ranged over: what is due is told as it is when the loop runs.
func TestRangedOverLater(t *testing.T) {
	w := New()
	turn := w.Turn(10)
	errnoIs(t, "Set", w.Set(1, 10), api.OK)
	errnoIs(t, "Set", w.Set(2, 11), api.OK)
	errnoIs(t, "Set", w.Set(3, 4), api.OK)
	errnoIs(t, "Stop", w.Stop(1), api.OK)
	if told := ask(turn, whole); !slices.Equal(told, [][2]int{{3, 4}}) {
		t.Fatalf("Turn: %v", told)
	}
	turnTells(t, w, 20, [2]int{2, 11})
	errnoIs(t, "Set", w.Set(4, 15), api.OK)
	if told := ask(turn, whole); !slices.Equal(told, [][2]int{{4, 15}}) {
		t.Fatalf("Turn at a later time: %v", told)
	}
}

// P9.2: a Turn that is ranged over twice tells what is left, or came since, and nothing twice.
func TestRangedOverTwice(t *testing.T) {
	w, _ := run(t, set(1, 1), set(2, 2), set(3, 3), set(4, 40))
	turn := w.Turn(5)
	for _, want := range [][][2]int{{{1, 1}, {2, 2}}, {{3, 3}}, nil, nil} {
		if told := ask(turn, 2); !slices.Equal(told, want) {
			t.Fatalf("Turn: %v, not %v", told, want)
		}
	}
	errnoIs(t, "Set", w.Set(2, 5), api.OK)
	errnoIs(t, "Set", w.Set(1, 6), api.OK)
	if told := ask(turn, whole); !slices.Equal(told, [][2]int{{2, 5}}) {
		t.Fatalf("Turn: %v", told)
	}
	allIs(t, w, [2]int{1, 6}, [2]int{4, 40})
}

// P9.2: however the loop ends, what was told is gone, and what was not is there.
func TestLoopThatPanics(t *testing.T) {
	w, _ := run(t, set(1, 1), set(2, 2), set(3, 3))
	func() {
		defer func() {
			if recover() == nil {
				t.Error("the loop's own panic is lost")
			}
		}()
		for id := range w.Turn(3) {
			if id == 2 {
				panic("the loop's own")
			}
		}
	}()
	allIs(t, w, [2]int{3, 3})
}

// P9.2: Next with no timer, with one, with many, behind each call.
func TestNext(t *testing.T) {
	w := New()
	nextIs := func(tick int, ok bool) {
		t.Helper()
		if got, is := w.Next(); got != tick || is != ok {
			t.Fatalf("Next: %d, %t, not %d, %t", got, is, tick, ok)
		}
	}
	nextIs(0, false)
	w.Set(1, end)
	nextIs(end, true)
	w.Set(2, 64)
	w.Set(3, 63)
	nextIs(63, true)
	w.Move(3, 65)
	nextIs(64, true)
	w.Stop(2)
	nextIs(65, true)
	w.Set(4, 0)
	nextIs(0, true)
	ask(w.Turn(64), whole)
	nextIs(65, true)
	ask(w.Turn(end), 1)
	nextIs(end, true)
	ask(w.Turn(0), whole)
	nextIs(0, false)
}

// P9.2: a copy is the same, and a change of either does not show in the other.
func TestCopy(t *testing.T) {
	changes := [][]step{
		nil, {set(50, 9)}, {set(-1, 70)}, {move(1, 0)}, {move(3, 7)}, {stop(1)}, {stop(2)}, {turn(6)}, {turnUpTo(70, 1)}, {turn(end)}, {turnNotRanged(80)},
		{stop(1), stop(2), stop(3), stop(4), set(9, 6), set(8, 70), set(7, 134)},
		{set(9, 6), set(8, 70), set(7, 134), turn(70), set(1, 5), set(2, 6), set(3, 70)},
	}
	for _, one := range changes {
		for _, other := range changes {
			for _, copyFirst := range []bool{false, true} {
				w, p := run(t, set(1, 6), set(2, 70), set(3, 6), set(4, 134), set(5, 2), turn(2))
				c, q := w.Copy(), p.copy()
				holds(t, c, q)
				if copyFirst {
					w, c, p, q = c, w, q, p
				}
				for _, s := range one {
					take(t, w, p, s)
					holds(t, c, q)
				}
				for _, s := range other {
					take(t, c, q, s)
					holds(t, w, p)
				}
				holds(t, w, p)
				holds(t, c, q)
			}
		}
	}
	if c := New().Copy(); c == nil || c.Len() != 0 || c.Now() != 0 {
		t.Fatalf("Copy of a new wheel: %v", c)
	}
}

// P9.2 and memory: a copy's loop is its own, and the first one's too.
func TestCopyAndTurn(t *testing.T) {
	w, _ := run(t, set(1, 6), set(2, 70))
	turn := w.Turn(100)
	c := w.Copy()
	if told := ask(turn, whole); len(told) != 2 || w.Len() != 0 || c.Len() != 2 || c.Now() != 100 {
		t.Fatalf("Turn: %v; %d and %d left", told, w.Len(), c.Len())
	}
	turnTells(t, c, 0, [2]int{1, 6}, [2]int{2, 70})
}

// scrawl writes over a list, its spare room too.
func scrawl(l [][2]int) {
	l = l[:cap(l)]
	for i := range l {
		l[i] = [2]int{-77, -77}
	}
}

// P9.2 and memory: what All tells is new each time.
func TestAllIsNew(t *testing.T) {
	for timers := range 70 {
		w, p := New(), noTimers()
		for i := range timers {
			take(t, w, p, set(i, i*13%40))
		}
		first, second := w.All(), w.All()
		kept := slices.Clone(second)
		scrawl(first)
		holds(t, w, p)
		if !slices.Equal(second, kept) {
			t.Fatalf("two answers share memory: %v", second)
		}
		take(t, w, p, set(500, 3))
		take(t, w, p, move(500, 4))
		take(t, w, p, turn(20))
		if !slices.Equal(second, kept) {
			t.Fatalf("a change of the wheel shows in an answer: %v", second)
		}
		scrawl(second)
		holds(t, w, p)
	}
}
