package wheel

import (
	"math"
	"slices"
	"testing"

	"terrace/api"
)

const end = 2 * api.MaxTick

// edges are the ticks and times that the chapter and the language make special.
var edges = []int{math.MinInt, math.MinInt + 1, -end - 1, -end, -api.MaxTick, -64, -1, 0, 1, 2, 63, 64, 65, api.MaxTick - 1, api.MaxTick, api.MaxTick + 1, end - 64, end - 1, end, end + 1, end + 64, 2 * end, math.MaxInt - 1, math.MaxInt}

// plain is what a wheel is held against: a map, gone through wholly for each answer.
type plain struct {
	time  int
	ticks map[int]int
}

func noTimers() *plain { return &plain{ticks: map[int]int{}} }

func (p *plain) copy() *plain {
	c := &plain{time: p.time, ticks: map[int]int{}}
	for id, tick := range p.ticks {
		c.ticks[id] = tick
	}
	return c
}

func (p *plain) set(id, tick int) api.Errno {
	if tick < 0 || tick > end {
		return api.ErrRange
	}
	if _, ok := p.ticks[id]; ok {
		return api.ErrTwice
	}
	if len(p.ticks) >= api.MaxTimers {
		return api.ErrFull
	}
	p.ticks[id] = tick
	return api.OK
}

func (p *plain) move(id, tick int) api.Errno {
	if tick < 0 || tick > end {
		return api.ErrRange
	}
	if _, ok := p.ticks[id]; !ok {
		return api.ErrNone
	}
	p.ticks[id] = tick
	return api.OK
}

func (p *plain) stop(id int) api.Errno {
	if _, ok := p.ticks[id]; !ok {
		return api.ErrNone
	}
	delete(p.ticks, id)
	return api.OK
}

// all lays each timer behind those that are told ahead of it.
func (p *plain) all() [][2]int {
	var list [][2]int
	for id, tick := range p.ticks {
		place := 0
		for place < len(list) && (list[place][1] < tick || list[place][1] == tick && list[place][0] < id) {
			place++
		}
		list = slices.Insert(list, place, [2]int{id, tick})
	}
	return list
}

// moveTime is what a Turn does to the time, whether it is ranged over or not.
func (p *plain) moveTime(now int) {
	if now > end {
		now = end
	}
	if now > p.time {
		p.time = now
	}
}

// tell is the loop over a Turn that is broken off behind the timer that is told as the most-th.
func (p *plain) tell(most int) [][2]int {
	var told [][2]int
	for _, x := range p.all() {
		if len(told) == most || x[1] > p.time {
			break
		}
		told = append(told, x)
	}
	for _, x := range told {
		delete(p.ticks, x[0])
	}
	return told
}

// ask ranges over a Turn up to the most-th timer (from 1 on), and breaks off there.
func ask(turn func(func(int, int) bool), most int) [][2]int {
	var told [][2]int
	for id, tick := range turn {
		told = append(told, [2]int{id, tick})
		if len(told) == most {
			break
		}
	}
	return told
}

// whole is the loop that is never broken off.
const whole = math.MaxInt

// tellsSame holds against the model all that a wheel tells of all its timers at once.
func tellsSame(t testing.TB, w *Wheel, p *plain) {
	t.Helper()
	all := p.all()
	if got := w.All(); !slices.Equal(got, all) {
		t.Fatalf("All: %v, not %v", got, all)
	}
	if got := w.Len(); got != len(all) {
		t.Fatalf("Len: %d, not %d", got, len(all))
	}
	if got := w.Now(); got != p.time {
		t.Fatalf("Now: %d, not %d", got, p.time)
	}
	next, ok := 0, len(all) > 0
	if ok {
		next = all[0][1]
	}
	if got, is := w.Next(); got != next || is != ok {
		t.Fatalf("Next: %d, %t, not %d, %t", got, is, next, ok)
	}
}

// getsSame holds Get against the model, for some numbers, the edges, and the timers that there are.
func getsSame(t testing.TB, w *Wheel, p *plain, ids ...int) {
	t.Helper()
	ids = append(slices.Clone(edges), ids...)
	for id := range p.ticks {
		ids = append(ids, id)
	}
	for _, id := range ids {
		tick, ok := p.ticks[id]
		if got, is := w.Get(id); got != tick || is != ok {
			t.Fatalf("Get(%d): %d, %t, not %d, %t", id, got, is, tick, ok)
		}
	}
}

// holds is all that tells something.
func holds(t testing.TB, w *Wheel, p *plain, ids ...int) {
	t.Helper()
	tellsSame(t, w, p)
	getsSame(t, w, p, ids...)
}

// step is one call.
type step struct {
	kind     byte // set, move, stop, turn
	id, tick int  // of a turn: up to how many timers it is asked, and the time
}

func set(id, tick int) step       { return step{'s', id, tick} }
func move(id, tick int) step      { return step{'m', id, tick} }
func stop(id int) step            { return step{'x', id, 0} }
func turn(now int) step           { return step{'t', whole, now} }
func turnUpTo(now, most int) step { return step{'t', most, now} }
func turnNotRanged(now int) step  { return step{'n', 0, now} }

// take does a step with both, and holds what is told right then against the model.
func take(t testing.TB, w *Wheel, p *plain, s step) {
	t.Helper()
	got, want := api.OK, api.OK
	switch s.kind {
	case 's':
		got, want = w.Set(s.id, s.tick), p.set(s.id, s.tick)
	case 'm':
		got, want = w.Move(s.id, s.tick), p.move(s.id, s.tick)
	case 'x':
		got, want = w.Stop(s.id), p.stop(s.id)
	case 't':
		p.moveTime(s.tick)
		told, due := ask(w.Turn(s.tick), s.id), p.tell(s.id)
		if !slices.Equal(told, due) {
			t.Fatalf("Turn(%d) up to %d: %v, not %v", s.tick, s.id, told, due)
		}
	case 'n':
		p.moveTime(s.tick)
		w.Turn(s.tick)
	}
	if got != want {
		t.Fatalf("%c(%d, %d): %d, not %d", s.kind, s.id, s.tick, got, want)
	}
}

// run takes steps from a new wheel on, and holds all that is told against the model behind each.
func run(t testing.TB, steps ...step) (*Wheel, *plain) {
	t.Helper()
	w, p := New(), noTimers()
	for _, s := range steps {
		take(t, w, p, s)
		holds(t, w, p, s.id)
	}
	return w, p
}

// filled has MaxTimers timers, from the number first on, due at the ticks that at tells.
func filled(t testing.TB, first int, at func(int) int) (*Wheel, *plain) {
	t.Helper()
	w, p := New(), noTimers()
	for i := range api.MaxTimers {
		take(t, w, p, set(first+i, at(i)))
	}
	holds(t, w, p)
	return w, p
}

func allIs(t testing.TB, w *Wheel, want ...[2]int) {
	t.Helper()
	if got := w.All(); !slices.Equal(got, want) {
		t.Fatalf("All: %v, not %v", got, want)
	}
}

func errnoIs(t testing.TB, what string, got, want api.Errno) {
	t.Helper()
	if got != want {
		t.Fatalf("%s: %d, not %d", what, got, want)
	}
}
