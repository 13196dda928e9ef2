package wheel

import (
	"math"
	"math/rand/v2"
	"testing"

	"terrace/api"
)

// P9.1: a new wheel has no timers, and its time is 0.
func TestNew(t *testing.T) {
	w := New()
	if w == nil {
		t.Fatal("New: nil")
	}
	if w.Len() != 0 || w.Now() != 0 || len(w.All()) != 0 {
		t.Fatalf("New: %d, %d, %v", w.Len(), w.Now(), w.All())
	}
	if tick, ok := w.Next(); tick != 0 || ok {
		t.Fatalf("Next: %d, %t", tick, ok)
	}
	holds(t, w, noTimers())
	for _, id := range edges {
		errnoIs(t, "Stop", w.Stop(id), api.ErrNone)
		errnoIs(t, "Move", w.Move(id, 5), api.ErrNone)
		if len(ask(w.Turn(id), whole)) != 0 {
			t.Fatalf("Turn(%d) of a new wheel tells a timer", id)
		}
	}
	v := New()
	errnoIs(t, "Set", v.Set(1, 1), api.OK)
	allIs(t, w)
}

// P9.1: Set at each edge of the ticks, and a timer that is there already.
func TestSet(t *testing.T) {
	for _, c := range []struct {
		tick int
		want api.Errno
	}{
		{-1, api.ErrRange}, {0, api.OK}, {1, api.OK}, {api.MaxTick, api.OK}, {api.MaxTick + 1, api.OK}, {end - 1, api.OK},
		{end, api.OK}, {end + 1, api.ErrRange}, {math.MinInt, api.ErrRange}, {math.MaxInt, api.ErrRange},
	} {
		w := New()
		errnoIs(t, "Set", w.Set(7, c.tick), c.want)
		if tick, ok := w.Get(7); ok != (c.want == api.OK) || ok && tick != c.tick {
			t.Fatalf("Get behind Set at %d: %d, %t", c.tick, tick, ok)
		}
		run(t, set(7, c.tick), set(7, c.tick), set(8, c.tick), set(7, 5), stop(7), set(7, c.tick))
	}
	w, _ := run(t, set(1, 5), set(1, 9), set(1, 5), set(1, -1))
	allIs(t, w, [2]int{1, 5})
}

// P9.1: Set and Move at ticks around the time: what is due already is set all the same.
func TestSetAroundTheTime(t *testing.T) {
	for _, time := range []int{0, 1, 64, 100, api.MaxTick, end - 1, end} {
		for _, tick := range []int{0, 1, time - 65, time - 64, time - 1, time, time + 1, time + 64, time + 65, end - 1, end, end + 1} {
			run(t, turn(time), set(1, tick), set(2, 5), move(2, tick), turnUpTo(0, 1), turn(0))
			run(t, set(1, 3), set(2, end), turnUpTo(time, 1), set(3, tick), move(3, tick-1), move(2, tick), turn(time+1))
		}
	}
}

// P9.1: any number may be a timer's.
func TestAnyNumber(t *testing.T) {
	w := New()
	for _, id := range edges {
		errnoIs(t, "Set", w.Set(id, 9), api.OK)
		errnoIs(t, "Set", w.Set(id, 9), api.ErrTwice)
	}
	for i, x := range w.All() {
		if x != [2]int{edges[i], 9} {
			t.Fatalf("All: %v at %d", x, i)
		}
	}
	var steps []step
	for i, id := range edges {
		steps = append(steps, set(id, i), set(id, i), move(id, 40-i), set(-id, 7), move(-id, 200))
	}
	for _, id := range edges {
		steps = append(steps, stop(id), stop(id), move(id, 1), set(id, 3))
	}
	run(t, append(steps, turn(100), turn(300))...)
}

// P9.1: Move and Stop, of timers that are there, that are not, that were stopped, that were told.
func TestMoveAndStop(t *testing.T) {
	for _, tick := range edges {
		run(t, move(1, tick), set(1, 5), move(1, tick), move(2, tick), stop(1), move(1, tick), stop(1), set(1, 6), move(1, tick), move(1, tick))
	}
	w, p := run(t, set(1, 5), set(2, 3), set(3, 5), turn(4))
	errnoIs(t, "Move of one that was told", w.Move(2, 9), api.ErrNone)
	errnoIs(t, "Stop of one that was told", w.Stop(2), api.ErrNone)
	holds(t, w, p, 2)
	errnoIs(t, "Set of one that was told", w.Set(2, 4), api.OK)
	errnoIs(t, "Move", w.Move(3, 0), api.OK)
	allIs(t, w, [2]int{3, 0}, [2]int{2, 4}, [2]int{1, 5})
	errnoIs(t, "Stop", w.Stop(2), api.OK)
	errnoIs(t, "Stop of one that was stopped", w.Stop(2), api.ErrNone)
	errnoIs(t, "Move of one that was stopped", w.Move(2, 4), api.ErrNone)
	allIs(t, w, [2]int{3, 0}, [2]int{1, 5})
}

// P9.1: a timer that was moved is due at its new tick, once, and no more at the old one.
func TestMoved(t *testing.T) {
	for _, from := range []int{0, 5, 64, 69, 133, end} {
		for _, to := range []int{0, 4, 5, 6, 64, 68, 69, 70, 133, end - 1, end} {
			run(t, set(1, from), set(2, from), set(0, to), move(1, to), turn(from), turn(to), turn(end))
			run(t, set(1, from), set(2, to), move(1, to), move(1, from), move(2, from), turn(from), turn(to))
		}
	}
}

// P9.1: no more than MaxTimers.
func TestFull(t *testing.T) {
	for name, at := range map[string]func(int) int{
		"one tick":        func(int) int { return 9 },
		"one spoke":       func(i int) int { return i * spokeCount },
		"each its own":    func(i int) int { return i },
		"the later first": func(i int) int { return end - i },
	} {
		t.Run(name, func(t *testing.T) {
			w, p := filled(t, -500, at)
			errnoIs(t, "Set", w.Set(5000, 9), api.ErrFull)
			holds(t, w, p, 5000)
			for _, s := range []step{
				set(math.MinInt, 0), set(5000, end), set(-500, 9), set(523, 9), set(5000, -1), set(-500, end+1),
				move(-500, 7), move(5000, 7), move(5000, -1), stop(5000),
				stop(0), set(5000, 8), set(0, 8), move(5000, 3), stop(-500), set(-500, 12), set(5001, 12),
				turnUpTo(end, 1), set(6000, 1), set(6001, 1), turnUpTo(0, 2), set(6001, 1), set(6002, 1), set(6003, 1),
			} {
				take(t, w, p, s)
				holds(t, w, p, s.id)
			}
			if w.Len() != api.MaxTimers {
				t.Fatalf("Len: %d", w.Len())
			}
			take(t, w, p, turn(end))
			holds(t, w, p)
			for i := range api.MaxTimers + 1 {
				take(t, w, p, set(i, i%7))
			}
			holds(t, w, p)
		})
	}
}

// P9.1: which error is told where several would fit.
func TestErrorsInOrder(t *testing.T) {
	w, p := filled(t, 0, func(i int) int { return i })
	errnoIs(t, "Set: range, twice, full", w.Set(5, -1), api.ErrRange)
	errnoIs(t, "Set: range, full", w.Set(5000, end+1), api.ErrRange)
	errnoIs(t, "Set: twice, full", w.Set(5, 5), api.ErrTwice)
	errnoIs(t, "Set: full", w.Set(5000, 5), api.ErrFull)
	errnoIs(t, "Move: range, none", w.Move(5000, -1), api.ErrRange)
	errnoIs(t, "Move: range", w.Move(5, end+1), api.ErrRange)
	errnoIs(t, "Move: none", w.Move(5000, 5), api.ErrNone)
	errnoIs(t, "Stop: none", w.Stop(5000), api.ErrNone)
	holds(t, w, p, 5000)
	w = New()
	errnoIs(t, "Set", w.Set(1, 1), api.OK)
	errnoIs(t, "Set: range, twice", w.Set(1, -1), api.ErrRange)
	allIs(t, w, [2]int{1, 1})
}

// P9.1, P9.2: every row of a few calls on two timers, whose ticks are in one spoke, or next to one another.
func TestEveryShortRow(t *testing.T) {
	var calls []step
	for _, id := range []int{-1, 2} {
		for _, tick := range []int{0, 1, 64, end + 1} {
			calls = append(calls, set(id, tick), move(id, tick))
		}
		calls = append(calls, stop(id))
	}
	for _, now := range []int{-1, 0, 1, 64} {
		calls = append(calls, turn(now), turnUpTo(now, 1), turnNotRanged(now))
	}
	var each func(w *Wheel, p *plain, left int)
	each = func(w *Wheel, p *plain, left int) {
		for _, s := range calls {
			v, q := w.Copy(), p.copy()
			take(t, v, q, s)
			tellsSame(t, v, q)
			if left > 1 {
				each(v, q, left-1)
			}
		}
		tellsSame(t, w, p)
	}
	each(New(), noTimers(), 3)
}

// chance is a row of calls, whose numbers and ticks meet often enough, and sometimes lie at the edges.
func chance(r *rand.Rand, ids, ticks int) step {
	id, tick := r.IntN(ids)-ids/2, r.IntN(ticks)
	if r.IntN(20) == 0 {
		id = edges[r.IntN(len(edges))]
	}
	if r.IntN(50) == 0 {
		tick = edges[r.IntN(len(edges))]
	}
	switch r.IntN(10) {
	case 0, 1, 2, 3:
		return set(id, tick)
	case 4, 5:
		return move(id, tick)
	case 6:
		return stop(id)
	case 7:
		return turnUpTo(r.IntN(ticks)/4, 1+r.IntN(5))
	case 8:
		return turn(r.IntN(ticks) / 8)
	default:
		return turnNotRanged(r.IntN(ticks) / 8)
	}
}

// P9.1, P9.2: long rows of any calls.
func TestLongRows(t *testing.T) {
	for seed := range uint64(60) {
		r := rand.New(rand.NewPCG(9, seed))
		w, p := New(), noTimers()
		ids, ticks := 1+r.IntN(200), 8+r.IntN(3000)
		for range 400 {
			s := chance(r, ids, ticks)
			take(t, w, p, s)
			tellsSame(t, w, p)
			if r.IntN(20) == 0 {
				getsSame(t, w, p, s.id)
			}
			if r.IntN(50) == 0 {
				v, q := w, p.copy()
				w = w.Copy()
				defer func() { holds(t, v, q) }()
			}
		}
	}
}

// FuzzSteps takes each 17 bytes as a call: P1 at any arguments, and the model behind each.
func FuzzSteps(f *testing.F) {
	f.Add([]byte{})
	f.Add([]byte("s\x01\x00\x00\x00\x00\x00\x00\x00\x05\x00\x00\x00\x00\x00\x00\x00t\x02\x00\x00\x00\x00\x00\x00\x00\x09\x00\x00\x00\x00\x00\x00\x00"))
	f.Add([]byte("s\xff\xff\xff\xff\xff\xff\xff\xff\x00\x00\x00\x00\x00\x02\x00\x00m\xff\xff\xff\xff\xff\xff\xff\xff\x01\x00\x00\x00\x00\x02\x00\x00"))
	f.Add([]byte("s\x07\x00\x00\x00\x00\x00\x00\x00\x06\x00\x00\x00\x00\x00\x00\x00s\x08\x00\x00\x00\x00\x00\x00\x00\x46\x00\x00\x00\x00\x00\x00\x00n\x08\x00\x00\x00\x00\x00\x00\x00\xff\xff\xff\xff\xff\xff\xff\x7f"))
	f.Fuzz(func(t *testing.T, b []byte) {
		w, p := New(), noTimers()
		for ; len(b) >= 17; b = b[17:] {
			s := step{"smxtn"[int(b[0])%5], number(b[1:9]), number(b[9:17])}
			if s.kind == 't' {
				s.id = 1 + s.id&3
			}
			take(t, w, p, s)
			holds(t, w, p, s.id)
			w = w.Copy()
		}
		holds(t, w, p)
	})
}

func number(b []byte) int {
	n := uint64(0)
	for i, x := range b {
		n |= uint64(x) << (8 * i)
	}
	return int(n)
}
