package group

import (
	"slices"
	"testing"

	"terrace/api"
)

// P12.2: the chapter's example.
func TestExample(t *testing.T) {
	g, _ := made(t, 1, 3, 5)
	asked(t, g, 0, 1, 10)
	levelFrom(t, g, 0, 10, 13, -1)
	levelFrom(t, g, 0, 13, 40, 1)
	asked(t, g, 0, 0, 20)
	levelFrom(t, g, 0, 20, 25, 1)
	levelFrom(t, g, 0, 25, 60, 0)
}

var delayPairs = [][2]int{{0, 0}, {0, 64}, {64, 0}, {64, 64}, {0, 1}, {1, 0}, {1, 1}, {3, 5}, {5, 3}, {63, 2}}

// P12.2: from each level to each other one, by the join delay if it is above, else by the leave delay.
func TestDelays(t *testing.T) {
	for _, delays := range delayPairs {
		for from := -1; from <= top; from++ {
			for to := -1; to <= top; to++ {
				for _, now := range []int{100, api.MaxTick - 1, api.MaxTick} {
					g, _ := made(t, 2, delays[0], delays[1])
					asked(t, g, 0, from, 0)
					asked(t, g, 0, to, now)
					comes := now + delays[1]
					if to > from {
						comes = now + delays[0]
					}
					levelFrom(t, g, 0, now, comes, from)
					levelFrom(t, g, 0, comes, comes+3, to)
					levelIs(t, g, 0, comes+1000, to)
					levelIs(t, g, 0, last, to)
					levelIs(t, g, 1, now, -1)
				}
			}
		}
	}
}

// P12.2: a receiver that never asked gets nothing, at any tick.
func TestNeverAsked(t *testing.T) {
	for _, delays := range delayPairs {
		g, _ := made(t, 3, delays[0], delays[1])
		asked(t, g, 1, top, 5)
		for _, now := range edges {
			levelIs(t, g, 0, now, -1)
			levelIs(t, g, 2, now, -1)
		}
		if g.Asked(0) != -1 || g.Asked(1) != top || g.Asked(2) != -1 {
			t.Fatalf("Asked: %d, %d, %d", g.Asked(0), g.Asked(1), g.Asked(2))
		}
	}
}

// P12.2: of a receiver that does not exist: ErrRange and 0, and -1 from Asked.
func TestNoReceiver(t *testing.T) {
	for _, receivers := range []int{1, 2, api.MaxReceivers} {
		g, p := made(t, receivers, 0, 0)
		for r := range receivers {
			do(t, g, p, ask{r, 4, 7})
		}
		for _, r := range []int{first, first + 1, -api.MaxReceivers, -1, receivers, receivers + 1, 1 << 32, last} {
			for _, now := range edges {
				if level, e := g.Level(r, now); level != 0 || e != api.ErrRange {
					t.Fatalf("Level(%d, %d): %d, %d", r, now, level, e)
				}
			}
			if got := g.Asked(r); got != -1 {
				t.Fatalf("Asked(%d): %d", r, got)
			}
		}
		holds(t, g, p)
	}
}

// P12.2: what was asked ahead has come by then, comes just then, or hasn't come and is forgotten, with what it would have led to.
func TestForgotten(t *testing.T) {
	for _, c := range []struct {
		what         string
		second       ask
		before, then int // the levels ahead of the second one's coming, and from it on
		comes        int
	}{
		{"has come, above", ask{0, 5, 14}, 3, 5, 17},
		{"has come, below", ask{0, 1, 14}, 3, 1, 19},
		{"has come, the same", ask{0, 3, 14}, 3, 3, 19},
		{"comes just then, above", ask{0, 5, 13}, 3, 5, 16},
		{"comes just then, below", ask{0, 1, 13}, 3, 1, 18},
		{"comes just then, the same", ask{0, 3, 13}, 3, 3, 18},
		{"forgotten, above", ask{0, 5, 12}, -1, 5, 15},
		{"forgotten, below it but above the level", ask{0, 1, 12}, -1, 1, 15},
		{"forgotten, the same once more", ask{0, 3, 12}, -1, 3, 15},
		{"forgotten, nothing", ask{0, -1, 12}, -1, -1, 17},
		{"forgotten at its own tick", ask{0, 1, 10}, -1, 1, 13},
		{"nothing at its own tick", ask{0, -1, 10}, -1, -1, 15},
	} {
		g, p := run(t, 1, 3, 5, ask{0, 3, 10}, c.second)
		levelFrom(t, g, 0, c.second.now, c.comes, c.before)
		levelFrom(t, g, 0, c.comes, c.comes+30, c.then)
		if got := g.Asked(0); got != c.second.level {
			t.Fatalf("%s: Asked: %d", c.what, got)
		}
		holds(t, g, p)
	}
}

// P12.2: a leave that hasn't come is forgotten: the level it left is still the one that the next asking is held against.
func TestForgottenLeave(t *testing.T) {
	g, _ := made(t, 1, 3, 9)
	asked(t, g, 0, 4, 0)
	asked(t, g, 0, 1, 20)
	asked(t, g, 0, 3, 22)
	levelFrom(t, g, 0, 22, 31, 4)
	levelFrom(t, g, 0, 31, 60, 3)
	asked(t, g, 0, 0, 60)
	asked(t, g, 0, 6, 68)
	levelFrom(t, g, 0, 68, 71, 3)
	levelFrom(t, g, 0, 71, 99, 6)
}

// P12.2: asked again ahead of each one's coming, none comes but the last.
func TestAlwaysForgotten(t *testing.T) {
	g, p := made(t, 1, 5, 5)
	for now := range 200 {
		do(t, g, p, ask{0, now % api.MaxLayers, now})
		levelIs(t, g, 0, now, -1)
	}
	levelFrom(t, g, 0, 199, 204, -1)
	levelFrom(t, g, 0, 204, 260, 199%api.MaxLayers)
	holds(t, g, p)
}

// P12.2: many askings at one tick: with a delay each forgets the one ahead, with none each has come.
func TestOneTick(t *testing.T) {
	g, _ := run(t, 1, 2, 4, ask{0, 2, 9}, ask{0, 7, 9}, ask{0, -1, 9}, ask{0, 5, 9}, ask{0, 3, 9})
	levelFrom(t, g, 0, 9, 11, -1)
	levelFrom(t, g, 0, 11, 40, 3)

	g, _ = run(t, 1, 0, 0, ask{0, 2, 9}, ask{0, 7, 9}, ask{0, -1, 9}, ask{0, 5, 9}, ask{0, 3, 9})
	levelFrom(t, g, 0, 9, 40, 3)

	g, _ = run(t, 1, 0, 4, ask{0, 2, 9}, ask{0, 7, 9}, ask{0, -1, 9}, ask{0, 5, 9}, ask{0, 3, 9})
	levelFrom(t, g, 0, 9, 13, 7)
	levelFrom(t, g, 0, 13, 40, 3)

	g, _ = run(t, 1, 4, 0, ask{0, 2, 9}, ask{0, 7, 9}, ask{0, -1, 9}, ask{0, 5, 9}, ask{0, 3, 9})
	levelFrom(t, g, 0, 9, 13, -1)
	levelFrom(t, g, 0, 13, 40, 3)
}

// P12.2: askings at neighbouring ticks, up and down, with every pair of small delays and the great ones.
func TestNeighbouringTicks(t *testing.T) {
	rows := [][]int{{0, 1, 2, 3}, {3, 2, 1, 0}, {7, -1, 7, -1}, {0, 0, 0, 0}, {-1, -1, 5, 5}, {4, 6, 5, 4, 6, 5, -1, 0}}
	for join := range 5 {
		for leave := range 5 {
			for _, row := range rows {
				var asks []ask
				for i, level := range row {
					asks = append(asks, ask{0, level, 50 + i})
				}
				run(t, 1, join, leave, asks...)
			}
		}
	}
	for _, delays := range delayPairs {
		run(t, 1, delays[0], delays[1], ask{0, 3, 0}, ask{0, 1, 63}, ask{0, 4, 64}, ask{0, 2, 65}, ask{0, 6, 128}, ask{0, 0, 130})
	}
}

// P12.2: Members for every layer and at the ends; rising, none below 0, and who gets a layer gets all below it.
func TestMembers(t *testing.T) {
	g, p := made(t, api.MaxReceivers, 3, 5)
	for i := range api.MaxReceivers {
		r := i * 37 % api.MaxReceivers
		do(t, g, p, ask{r, r*5%(api.MaxLayers+1) - 1, i})
	}
	holds(t, g, p)
	for _, layer := range []int{first, first + 1, -2, -1, api.MaxLayers, api.MaxLayers + 1, 1 << 32, last} {
		if got := g.Members(layer, 100); len(got) != 0 {
			t.Fatalf("Members(%d): %v", layer, got)
		}
	}
	below := g.Members(0, 100)
	for layer := range api.MaxLayers {
		var want []int
		for r := range api.MaxReceivers {
			if r*5%9-1 >= layer {
				want = append(want, r)
			}
		}
		got := g.Members(layer, 100)
		if len(got) == 0 || !slices.Equal(got, want) {
			t.Fatalf("Members(%d): %v, not %v", layer, got, want)
		}
		for _, r := range got {
			if !slices.Contains(below, r) {
				t.Fatalf("receiver %d gets layer %d, but not the one below", r, layer)
			}
		}
		below = got
	}
}

// P12.2: Members is as of the tick: one comes as its level comes, and goes as it goes.
func TestMembersInTime(t *testing.T) {
	g, _ := made(t, 4, 3, 5)
	asked(t, g, 3, 2, 10)
	asked(t, g, 1, 0, 11)
	asked(t, g, 0, 7, 12)
	for _, c := range []struct {
		layer, now int
		want       []int
	}{
		{0, 12, nil}, {0, 13, []int{3}}, {0, 14, []int{1, 3}}, {0, 15, []int{0, 1, 3}}, {0, last, []int{0, 1, 3}},
		{1, 12, nil}, {1, 13, []int{3}}, {1, 14, []int{3}}, {1, 15, []int{0, 3}}, {2, 15, []int{0, 3}}, {3, 15, []int{0}}, {7, 14, nil}, {7, 15, []int{0}},
	} {
		if got := g.Members(c.layer, c.now); !slices.Equal(got, c.want) {
			t.Fatalf("Members(%d, %d): %v, not %v", c.layer, c.now, got, c.want)
		}
	}
	asked(t, g, 3, 1, 20)
	asked(t, g, 0, -1, 21)
	for _, c := range []struct {
		layer, now int
		want       []int
	}{
		{2, 24, []int{0, 3}}, {2, 25, []int{0}}, {2, 26, nil}, {1, 25, []int{0, 3}}, {1, 26, []int{3}}, {0, 25, []int{0, 1, 3}}, {0, 26, []int{1, 3}},
	} {
		if got := g.Members(c.layer, c.now); !slices.Equal(got, c.want) {
			t.Fatalf("Members(%d, %d): %v, not %v", c.layer, c.now, got, c.want)
		}
	}
}

// P12.2: Asked is the last level that was asked for, come or not; what was refused was not asked.
func TestAsked(t *testing.T) {
	g, p := made(t, 3, 3, 5)
	for _, c := range []struct {
		ask
		want int
	}{
		{ask{1, 8, 5}, -1}, {ask{1, 2, -1}, -1}, {ask{1, 2, 5}, 2}, {ask{1, 3, 4}, 2}, {ask{1, -2, 9}, 2}, {ask{1, 0, 5}, 0},
		{ask{1, 7, 6}, 7}, {ask{1, 5, api.MaxTick + 1}, 7}, {ask{1, -1, 7}, -1}, {ask{1, 4, 7}, 4},
	} {
		do(t, g, p, c.ask)
		if g.Asked(0) != -1 || g.Asked(1) != c.want || g.Asked(2) != -1 {
			t.Fatalf("Ask(%v): Asked: %d, %d, %d", c.ask, g.Asked(0), g.Asked(1), g.Asked(2))
		}
	}
}

// P12.2: what is told does not change what is told later, in whatever order of ticks it is asked.
func TestTellingChangesNothing(t *testing.T) {
	g, p := run(t, 2, 3, 5, ask{0, 4, 10}, ask{1, 2, 11}, ask{0, 1, 20})
	for _, now := range slices.Concat(edges, []int{60, 24, 25, 20, 0, 19, 13}) {
		g.Level(0, now)
		g.Members(1, now)
		g.Asked(0)
		g.Count()
		g.Copy()
		holds(t, g, p)
	}
	do(t, g, p, ask{0, 3, 20})
	holds(t, g, p)
}

// Memory: a change of what Members told shows neither in the group nor in what it tells later.
func TestMembersIsNew(t *testing.T) {
	g, p := run(t, 5, 0, 0, ask{0, 4, 1}, ask{2, 4, 1}, ask{3, 6, 1})
	one, other := g.Members(4, 1), g.Members(4, 1)
	scrawl(one)
	if !slices.Equal(other, []int{0, 2, 3}) {
		t.Fatalf("two answers share memory: %v", other)
	}
	scrawl(other)
	holds(t, g, p)
	if got := g.Members(4, 1); !slices.Equal(got, []int{0, 2, 3}) {
		t.Fatalf("Members: %v", got)
	}
}

// scrawl writes over a list, its spare room too.
func scrawl(l []int) {
	l = l[:cap(l)]
	for i := range l {
		l[i] = -99
	}
}

// P12.2: a copy tells the same as the first one would, and what is asked in either does not show in the other.
func TestCopy(t *testing.T) {
	for _, delays := range delayPairs {
		g, p := run(t, 3, delays[0], delays[1], ask{0, 4, 10}, ask{1, 2, 11}, ask{0, 1, 20})
		c, q := g.Copy(), p.copy()
		holds(t, c, q)
		do(t, g, p, ask{0, 7, 21})
		do(t, g, p, ask{2, 7, 5})
		holds(t, g, p)
		holds(t, c, q)
		do(t, c, q, ask{0, 0, 20})
		do(t, c, q, ask{1, 3, 12})
		do(t, c, q, ask{0, 2, 19})
		holds(t, c, q)
		holds(t, g, p)
		d := c.Copy().Copy()
		do(t, c, q.copy(), ask{2, 5, 0})
		holds(t, d, q)
	}
}

// P12.2: a copy goes on as the first one would: the same askings, refused and taken alike.
func TestCopyGoesOn(t *testing.T) {
	g, p := run(t, 2, 3, 5, ask{0, 4, 10}, ask{1, 2, 11})
	c, q := g.Copy(), p.copy()
	for _, a := range []ask{{0, 1, 9}, {0, 1, 12}, {1, 0, 14}, {1, 7, 13}, {0, 8, 50}, {0, 3, 15}, {1, 7, 20}} {
		if got, want := do(t, c, q, a), do(t, g, p, a); got != want {
			t.Fatalf("Ask(%v): %d, not %d", a, got, want)
		}
		holds(t, c, q)
		holds(t, g, p)
	}
}
