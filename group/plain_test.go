package group

import (
	"math"
	"slices"
	"testing"

	"terrace/api"
)

const (
	first = math.MinInt
	last  = math.MaxInt
	top   = api.MaxLayers - 1
)

// edges are the numbers that the chapter and the language make special.
var edges = []int{
	first, first + 1, -api.MaxTick, -65, -64, -2, -1, 0, 1, 2, 3, 6, top, api.MaxLayers, api.MaxLayers + 1,
	63, 64, 65, 1 << 31, 1 << 32, api.MaxTick - 65, api.MaxTick - 64, api.MaxTick - 1, api.MaxTick, api.MaxTick + 1,
	api.MaxTick + 63, api.MaxTick + 64, api.MaxTick + 65, last - 1, last,
}

// change is a level that comes at a tick.
type change struct{ tick, level int }

// listener is a receiver of the model: all of its levels' changes that have come or are to come, the last one behind.
type listener struct {
	changes []change
	askedAt []int // the ticks at which it asked
	asked   []int // the levels that it asked for
}

// plain is what a group is held against.
type plain struct {
	join, leave int
	listeners   []listener
}

func (l *listener) at(now int) int {
	level := -1
	for _, c := range l.changes {
		if c.tick <= now {
			level = c.level
		}
	}
	return level
}

// since is the first tick of which a level is promised: the one of the last asking, or any, if there was none.
func (l *listener) since() int {
	if len(l.askedAt) == 0 {
		return first
	}
	return slices.Max(l.askedAt)
}

func (l *listener) want() int {
	if len(l.asked) == 0 {
		return -1
	}
	return l.asked[len(l.asked)-1]
}

func newPlain(receivers, join, leave int) *plain {
	return &plain{join, leave, make([]listener, receivers)}
}

func (p *plain) copy() *plain {
	c := newPlain(len(p.listeners), p.join, p.leave)
	for i, l := range p.listeners {
		c.listeners[i] = listener{slices.Clone(l.changes), slices.Clone(l.askedAt), slices.Clone(l.asked)}
	}
	return c
}

func (p *plain) ask(r, level, now int) api.Errno {
	switch {
	case r < 0, r >= len(p.listeners), level < -1, level > 7, now < 0, now > 1<<40:
		return api.ErrRange
	case slices.ContainsFunc(p.listeners[r].askedAt, func(tick int) bool { return tick > now }):
		return api.ErrStale
	}
	l := &p.listeners[r]
	l.changes = slices.DeleteFunc(l.changes, func(c change) bool { return c.tick > now })
	delay := p.leave
	if level > l.at(now) {
		delay = p.join
	}
	l.changes = append(l.changes, change{now + delay, level})
	l.askedAt, l.asked = append(l.askedAt, now), append(l.asked, level)
	return api.OK
}

func (p *plain) members(layer, now int) []int {
	var members []int
	for r := range p.listeners {
		if layer >= 0 && p.listeners[r].at(now) >= layer {
			members = append(members, r)
		}
	}
	return members
}

// ticks are those about which something may change, and the edges.
func (p *plain) ticks() []int {
	ticks := slices.Clone(edges)
	for i := range p.listeners {
		l := &p.listeners[i]
		for _, tick := range l.askedAt {
			ticks = append(ticks, tick, tick+1, tick+p.join-1, tick+p.join, tick+p.join+1, tick+p.leave-1, tick+p.leave, tick+p.leave+1)
		}
	}
	slices.Sort(ticks)
	return slices.Compact(ticks)
}

// since is the first tick of which all receivers' levels are promised.
func (p *plain) since() int {
	since := first
	for i := range p.listeners {
		since = max(since, p.listeners[i].since())
	}
	return since
}

func levelSame(t testing.TB, g *Group, p *plain, r, now int) {
	t.Helper()
	if got, e := g.Level(r, now); got != p.listeners[r].at(now) || e != api.OK {
		t.Fatalf("Level(%d, %d): %d, %d, not %d", r, now, got, e, p.listeners[r].at(now))
	}
}

func membersSame(t testing.TB, g *Group, p *plain, layer, now int) {
	t.Helper()
	if got, want := g.Members(layer, now), p.members(layer, now); !slices.Equal(got, want) {
		t.Fatalf("Members(%d, %d): %v, not %v", layer, now, got, want)
	}
}

// holdsAt is all that is told of one tick, as far as it is promised.
func holdsAt(t testing.TB, g *Group, p *plain, now int) {
	t.Helper()
	for r := range p.listeners {
		if now >= p.listeners[r].since() {
			levelSame(t, g, p, r, now)
		}
	}
	if now < p.since() {
		return
	}
	for layer := -2; layer <= api.MaxLayers+1; layer++ {
		membersSame(t, g, p, layer, now)
	}
}

// asksSame is what is told without a tick.
func asksSame(t testing.TB, g *Group, p *plain) {
	t.Helper()
	if got := g.Count(); got != len(p.listeners) {
		t.Fatalf("Count: %d, not %d", got, len(p.listeners))
	}
	for r := range p.listeners {
		if got, want := g.Asked(r), p.listeners[r].want(); got != want {
			t.Fatalf("Asked(%d): %d, not %d", r, got, want)
		}
	}
}

// holds is all that a group tells, held against the model.
func holds(t testing.TB, g *Group, p *plain) {
	t.Helper()
	asksSame(t, g, p)
	for _, now := range p.ticks() {
		holdsAt(t, g, p, now)
	}
}

// made is a new group.
func made(t testing.TB, receivers, join, leave int) (*Group, *plain) {
	t.Helper()
	g, e := New(receivers, join, leave)
	if e != api.OK || g == nil {
		t.Fatalf("New(%d, %d, %d): %v, %d", receivers, join, leave, g, e)
	}
	return g, newPlain(receivers, join, leave)
}

// ask is one asking.
type ask struct{ r, level, now int }

// do asks both, and holds the answer against the model's.
func do(t testing.TB, g *Group, p *plain, a ask) api.Errno {
	t.Helper()
	got, want := g.Ask(a.r, a.level, a.now), p.ask(a.r, a.level, a.now)
	if got != want {
		t.Fatalf("Ask(%d, %d, %d): %d, not %d", a.r, a.level, a.now, got, want)
	}
	return got
}

// run asks from a new group on, and holds all that is told against the model behind each asking.
func run(t testing.TB, receivers, join, leave int, asks ...ask) (*Group, *plain) {
	t.Helper()
	g, p := made(t, receivers, join, leave)
	holds(t, g, p)
	for _, a := range asks {
		do(t, g, p, a)
		holds(t, g, p)
	}
	return g, p
}

func errnoIs(t testing.TB, what string, got, want api.Errno) {
	t.Helper()
	if got != want {
		t.Fatalf("%s: %d, not %d", what, got, want)
	}
}

func asked(t testing.TB, g *Group, r, level, now int) {
	t.Helper()
	errnoIs(t, "Ask", g.Ask(r, level, now), api.OK)
}

// levelFrom holds the level at each tick from the first one up to the last one, without it, against the one wanted.
func levelFrom(t testing.TB, g *Group, r, from, to, want int) {
	t.Helper()
	for now := from; now < to; now++ {
		levelIs(t, g, r, now, want)
	}
}

func levelIs(t testing.TB, g *Group, r, now, want int) {
	t.Helper()
	if got, e := g.Level(r, now); got != want || e != api.OK {
		t.Fatalf("Level(%d, %d): %d, %d, not %d", r, now, got, e, want)
	}
}
