package simnet

import (
	"slices"
	"testing"

	"terrace/api"
	"terrace/group"
)

// right is a config that nothing is wrong with.
var right = Config{Receivers: 2, Delay: 2, Room: 8, Join: 1, Leave: 3}

// newIs makes a net, and holds it against the model, if it should be one.
func newIs(t *testing.T, c Config, ok bool) {
	t.Helper()
	n, e := New(c, []Fate{{Kind: 1}})
	if !ok {
		if n != nil || e != api.ErrRange {
			t.Fatalf("New(%+v): %v, %d, not ErrRange alone", c, n, e)
		}
		return
	}
	if n == nil || e != api.OK {
		t.Fatalf("New(%+v): %v, %d", c, n, e)
	}
	p := newPlain(c, []Fate{{Kind: 1}})
	holds(t, n, p)
	do(t, n, p, ask(c.Receivers-1, 0, 5), up(c.Receivers-1, "a", 6), up(0, "b", 6), send(0, "c", 5+c.Join))
}

// bound is a number of a config, with some values that it may have, or may not.
type bound struct {
	what      string
	set       func(*Config, int)
	yes, none []int
}

// P13.1: New at each edge of each of its numbers.
func TestNew(t *testing.T) {
	for _, b := range []bound{
		{"Receivers", func(c *Config, x int) { c.Receivers = x }, []int{1, 2, 63, 64}, []int{first, -1, 0, 65, 1<<32 + 1, last}},
		{"Delay", func(c *Config, x int) { c.Delay = x }, []int{0, 1, 63, 64}, []int{first, -1, 65, 1 << 32, last}},
		{"Room", func(c *Config, x int) { c.Room = x }, []int{1, 2, 255, 256}, []int{first, -1, 0, 257, 1<<32 + 1, last}},
		{"Join", func(c *Config, x int) { c.Join = x }, []int{0, 1, 63, 64}, []int{first, -1, 65, 1 << 32, last}},
		{"Leave", func(c *Config, x int) { c.Leave = x }, []int{0, 1, 63, 64}, []int{first, -1, 65, 1 << 32, last}},
	} {
		for _, x := range b.yes {
			c := right
			b.set(&c, x)
			newIs(t, c, true)
		}
		for _, x := range b.none {
			c := right
			b.set(&c, x)
			newIs(t, c, false)
		}
	}
	newIs(t, Config{Receivers: 1, Room: 1}, true)
	newIs(t, Config{}, false)
	newIs(t, Config{first, first, first, first, first}, false)
	newIs(t, Config{last, last, last, last, last}, false)
	newIs(t, Config{65, 65, 257, 65, 65}, false)
	newIs(t, Config{64, 64, 256, 64, 64}, true)
}

// P13.1: a new net: nobody gets anything, nothing waits, nothing is counted.
func TestNewIsEmpty(t *testing.T) {
	n, _ := made(t, right, Fate{Kind: 1}, Fate{Kind: 2})
	statsAre(t, n, Stats{}, 0)
	for r := range 2 {
		if level, e := n.Level(r, 0); level != -1 || e != api.OK || n.Waiting(r) != 0 {
			t.Fatalf("receiver %d: Level %d, %d, Waiting %d", r, level, e, n.Waiting(r))
		}
		tells(t, n, r, last)
	}
	tellsSender(t, n, last)
	for layer := range api.MaxLayers {
		sent(t, n, layer, "a", 5, 0)
	}
	statsAre(t, n, Stats{}, 0)
}

// P13.1: two new nets have nothing to do with each other, of the same fates, too.
func TestNewIsNew(t *testing.T) {
	fates := []Fate{{Kind: 1}, {Kind: 2}}
	n, p := joined(t, right, fates, 3, 3)
	m, q := joined(t, right, fates, -1, 2)
	do(t, n, p, send(0, "a", 9), up(0, "b", 9), up(0, "c", 9))
	holds(t, m, q)
	do(t, m, q, send(0, "d", 9), up(1, "e", 9))
	holds(t, n, p)
}

// P13.1: no fates: all arrive, and none is used.
func TestNoFates(t *testing.T) {
	list := []Fate{{Kind: 1}}
	for _, fates := range [][]Fate{nil, {}, make([]Fate, 0, 5), list[:0]} {
		n, p := joined(t, right, fates, 0, 4)
		do(t, n, p, send(0, "a", 3), send(1, "b", 3), up(0, "c", 3))
		statsAre(t, n, Stats{Sent: 4}, 0)
		tells(t, n, 0, 5, "a")
		tells(t, n, 1, 5, "a", "b")
		tellsSender(t, n, 5, "c")
	}
}

// P13.1: many fates, used up one by one.
func TestManyFates(t *testing.T) {
	const many = 3000
	fates := make([]Fate, many)
	for i := range fates {
		fates[i] = Fate{Kind: i % 7, N: i}
	}
	n, p := joined(t, Config{Delay: 1, Room: 256}, fates, 0)
	for i := range many + 10 {
		up(0, string([]byte{byte(i), byte(i >> 8)}), i)(t, n, p)
		countsSame(t, n, p)
		senderTakes(i)(t, n, p)
	}
	holds(t, n, p)
	if n.Used() != many || n.Stats().Sent != many+10 {
		t.Fatalf("Used: %d of %d", n.Used(), n.Stats().Sent)
	}
}

// Memory: the fates that were handed in are neither changed nor kept, their spare room neither.
func TestFatesAreNotKept(t *testing.T) {
	list := []Fate{{Kind: 2}, {Kind: 1}, {Kind: 3, N: 5}, {Kind: 77, N: 77}}
	fates := list[:3]
	n, p := joined(t, right, fates, 0, -1)
	before := slices.Clone(list)
	do(t, n, p, send(0, "a", 1))
	for i := range list {
		list[i] = Fate{Kind: 4, N: i}
	}
	do(t, n, p, send(0, "b", 1), send(0, "c", 1), send(0, "d", 1))
	statsAre(t, n, Stats{Sent: 4, Lost: 1, Doubled: 1, Late: 1}, 3)
	tells(t, n, 0, last, "a", "a", "d", "c")

	m, q := joined(t, right, before[:3], 0, -1)
	do(t, m, q, send(0, "a", 1), send(0, "b", 1), send(0, "c", 1), send(0, "d", 1))
	if !slices.Equal(before, []Fate{{Kind: 2}, {Kind: 1}, {Kind: 3, N: 5}, {Kind: 77, N: 77}}) {
		t.Fatalf("the fates were changed: %v", before)
	}
}

// P13.1: Ask's errors are layer 12's; what is refused changes nothing.
func TestAsk(t *testing.T) {
	n, p := made(t, right)
	for _, c := range []struct {
		r, level, now int
		want          api.Errno
	}{
		{first, 0, 0, api.ErrRange}, {-1, 0, 0, api.ErrRange}, {2, 0, 0, api.ErrRange}, {last, 0, 0, api.ErrRange},
		{0, first, 0, api.ErrRange}, {0, -2, 0, api.ErrRange}, {0, 8, 0, api.ErrRange}, {0, last, 0, api.ErrRange},
		{0, 0, first, api.ErrRange}, {0, 0, -1, api.ErrRange}, {0, 0, api.MaxTick + 1, api.ErrRange}, {0, 0, last, api.ErrRange},
		{0, 3, 0, api.OK}, {0, 7, 10, api.OK}, {0, 5, 9, api.ErrStale}, {0, 5, 0, api.ErrStale}, {0, 8, 9, api.ErrRange}, {0, 5, -1, api.ErrRange},
		{1, -1, 5, api.OK}, {1, 0, 4, api.ErrStale}, {1, 2, 5, api.OK}, {0, 5, 10, api.OK}, {0, -1, api.MaxTick, api.OK}, {0, 4, api.MaxTick - 1, api.ErrStale},
	} {
		before := p.copy()
		errnoIs(t, "Ask", n.Ask(c.r, c.level, c.now), c.want)
		p.group.Ask(c.r, c.level, c.now)
		holds(t, n, p)
		if c.want != api.OK {
			holds(t, n, before)
		}
	}
}

// P13.1: Level is layer 12's: by the join's and the leave's delay.
func TestLevel(t *testing.T) {
	n, _ := made(t, Config{Receivers: 2, Room: 1, Join: 3, Leave: 5})
	errnoIs(t, "Ask", n.Ask(0, 1, 10), api.OK)
	for now, want := range map[int]int{10: -1, 12: -1, 13: 1, 19: 1, last: 1} {
		if level, e := n.Level(0, now); level != want || e != api.OK {
			t.Fatalf("Level(0, %d): %d, %d, not %d", now, level, e, want)
		}
	}
	errnoIs(t, "Ask", n.Ask(0, 0, 20), api.OK)
	for now, want := range map[int]int{20: 1, 24: 1, 25: 0, last: 0} {
		if level, e := n.Level(0, now); level != want || e != api.OK {
			t.Fatalf("Level(0, %d): %d, %d, not %d", now, level, e, want)
		}
	}
	for _, r := range []int{first, -1, 2, 3, 1 << 32, last} {
		for _, now := range edges {
			if level, e := n.Level(r, now); level != 0 || e != api.ErrRange {
				t.Fatalf("Level(%d, %d): %d, %d", r, now, level, e)
			}
		}
	}
}

// P13.1: a net's calls of layer 12 are its group's, whatever is asked of it and however great its delays are.
func TestGroupOfItsOwn(t *testing.T) {
	for _, join := range []int{0, 1, 64} {
		for _, leave := range []int{0, 2, 63, 64} {
			n, p := made(t, Config{Receivers: 64, Room: 1, Join: join, Leave: leave})
			g, _ := group.New(64, join, leave)
			for i := range 200 {
				r, level, now := i*37%64, i*5%9-1, i
				if got, want := n.Ask(r, level, now), g.Ask(r, level, now); got != want {
					t.Fatalf("Ask(%d, %d, %d): %d, not %d", r, level, now, got, want)
				}
			}
			p.group = g
			holds(t, n, p)
		}
	}
}

// P13.1: a copy tells the same, its group, its pipes, its fates and its stats, and what is done to either does not show in the other.
func TestCopy(t *testing.T) {
	fates := []Fate{{Kind: 2}, {Kind: 3, N: 9}, {Kind: 4, N: 3}, {Kind: 1}, {Kind: 2}, {Kind: 4, N: 1}, {Kind: 3, N: 2}}
	n, p := joined(t, right, fates, 3, 1)
	do(t, n, p, send(0, "a", 9), up(1, "b", 9))
	c, q := n.Copy(), p.copy()
	holds(t, c, q)
	do(t, n, p, send(1, "c", 10), up(0, "d", 10), ask(0, -1, 11), ask(1, 7, 11), take(0, 30), senderTakes(30), send(0, "e", 20))
	holds(t, c, q)
	do(t, c, q, ask(1, 0, 10), up(0, "f", 10), take(1, 11), take(0, 10), send(0, "g", 14), senderTakesUpTo(30, 1))
	holds(t, n, p)
	d, o := c.Copy().Copy(), q.copy()
	do(t, c, q, up(0, "h", 15), take(0, last), senderTakes(last))
	holds(t, d, o)
	holds(t, n, p)
}

// P13.1: a copy goes on as the first one would, in each of its states.
func TestCopyGoesOn(t *testing.T) {
	fates := []Fate{{Kind: 2}, {Kind: 3, N: 9}, {Kind: 4, N: 3}, {Kind: 1}, {Kind: 2}}
	steps := []step{
		ask(0, 3, 0), ask(1, 2, 1), send(0, "a", 2), send(2, "b", 4), ask(0, 0, 3), ask(1, 5, 2), up(1, "c", 5), send(0, "d", 5),
		take(0, 6), takeUpTo(1, 7, 1), senderTakes(7), send(1, "e", 8), up(0, "f", 8), take(1, 60), send(0, "g", 9), send(9, "h", 9),
	}
	for i := range len(steps) + 1 {
		n, p := made(t, Config{Receivers: 2, Delay: 1, Room: 2, Join: 1, Leave: 2}, fates...)
		do(t, n, p, steps[:i]...)
		c, q := n.Copy(), p.copy()
		do(t, c, q, steps[i:]...)
		holds(t, n, p)
		do(t, n, p, steps[i:]...)
		holds(t, c, p)
	}
}

// P13.1: a copy of a net whose fates are used up, whose pipes are full, and of a new one.
func TestCopyAtTheEdges(t *testing.T) {
	n, p := joined(t, Config{Delay: 64, Room: 1}, []Fate{{Kind: 2}}, 7, 7)
	holds(t, n.Copy(), p)
	do(t, n, p, send(0, "a", api.MaxTick), up(0, "b", api.MaxTick))
	c, q := n.Copy(), p.copy()
	holds(t, c, q)
	do(t, c, q, send(7, "c", 0), up(1, "d", 0))
	statsAre(t, c, Stats{Sent: 6, Doubled: 1, Dropped: 4}, 1)
	statsAre(t, n, Stats{Sent: 3, Doubled: 1, Dropped: 1}, 1)
}

// Memory: bytes told by a copy, or by the first one, are not the other's.
func TestCopySharesNoBytes(t *testing.T) {
	n, p := joined(t, right, nil, 0, 0)
	do(t, n, p, send(0, "abc", 1), up(0, "def", 1))
	c := n.Copy()
	for b := range n.Take(0, last) {
		scrawl(b)
	}
	for b := range c.Take(1, last) {
		scrawl(b)
	}
	for b := range n.TakeUp(last) {
		scrawl(b)
	}
	tells(t, c, 0, last, "abc")
	tells(t, n, 1, last, "abc")
	tellsSender(t, c, last, "def")
}
