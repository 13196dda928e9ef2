package group

import (
	"math/rand/v2"
	"slices"
	"testing"

	"terrace/api"
)

// P12.1: New at each edge of the receivers' number and of both delays, in every mixture.
func TestNew(t *testing.T) {
	counts := []int{first, first + 1, -1, 0, 1, 2, api.MaxReceivers - 1, api.MaxReceivers, api.MaxReceivers + 1, 1<<32 + 1, last}
	delays := []int{first, first + 1, -1, 0, 1, 63, 64, 65, 1 << 32, last}
	for _, receivers := range counts {
		for _, join := range delays {
			for _, leave := range delays {
				want := api.OK
				if receivers < 1 || receivers > 64 || join < 0 || join > 64 || leave < 0 || leave > 64 {
					want = api.ErrRange
				}
				g, e := New(receivers, join, leave)
				errnoIs(t, "New", e, want)
				if (g != nil) != (e == api.OK) {
					t.Fatalf("New(%d, %d, %d): %v beside %d", receivers, join, leave, g, e)
				}
				if g != nil && g.Count() != receivers {
					t.Fatalf("Count: %d, not %d", g.Count(), receivers)
				}
			}
		}
	}
}

// P12.1: every number of receivers: so many are there, each with nothing, and none behind them.
func TestCount(t *testing.T) {
	for receivers := 1; receivers <= api.MaxReceivers; receivers++ {
		g, p := run(t, receivers, 3, 5)
		if g.Count() != receivers {
			t.Fatalf("Count: %d, not %d", g.Count(), receivers)
		}
		errnoIs(t, "Ask of one past the last", g.Ask(receivers, 0, 0), api.ErrRange)
		errnoIs(t, "Ask of one below the first", g.Ask(-1, 0, 0), api.ErrRange)
		holds(t, g, p)
		for r := range receivers {
			do(t, g, p, ask{r, r % api.MaxLayers, receivers - r})
		}
		holds(t, g, p)
		if g.Count() != receivers {
			t.Fatalf("Count behind askings: %d, not %d", g.Count(), receivers)
		}
	}
}

// P12.1: two new groups have nothing to do with each other.
func TestNewIsNew(t *testing.T) {
	g, _ := made(t, 2, 0, 0)
	v, p := made(t, 2, 0, 0)
	asked(t, g, 0, 3, 4)
	holds(t, v, p)
}

// P12.1: Ask at each mixture of the edges, where receiver 1 of three has asked for level 2 at tick 50.
func TestAskEdges(t *testing.T) {
	receivers := []int{first, first + 1, -1, 0, 1, 2, 3, 1 << 32, last}
	levels := []int{first, first + 1, -2, -1, 0, 1, top, api.MaxLayers, 1 << 32, last}
	ticks := []int{first, first + 1, -1, 0, 1, 49, 50, 51, api.MaxTick - 1, api.MaxTick, api.MaxTick + 1, last}
	for _, r := range receivers {
		for _, level := range levels {
			for _, now := range ticks {
				g, p := made(t, 3, 3, 5)
				do(t, g, p, ask{1, 2, 50})
				want := api.OK
				if r == 1 && now < 50 {
					want = api.ErrStale
				}
				if r < 0 || r > 2 || level < -1 || level > 7 || now < 0 || now > 1<<40 {
					want = api.ErrRange
				}
				errnoIs(t, "Ask", g.Ask(r, level, now), want)
				if want == api.OK {
					p.ask(r, level, now)
				}
				holds(t, g, p)
			}
		}
	}
}

// P12.1: where several errors apply, the one that is named first; what is refused changes nothing.
func TestErrorsInOrder(t *testing.T) {
	g, p := run(t, 2, 4, 6, ask{0, 3, 10}, ask{1, 1, 20}, ask{0, 5, 30})
	for _, a := range []ask{{0, 8, 29}, {0, -2, 29}, {0, 0, -1}, {0, 9, -1}, {2, 0, 29}, {2, 8, -1}, {-1, -2, api.MaxTick + 1}, {0, 0, first}, {0, first, 0}, {first, 0, 0}} {
		errnoIs(t, "range and stale", g.Ask(a.r, a.level, a.now), api.ErrRange)
		holds(t, g, p)
	}
	for _, a := range []ask{{0, 0, 29}, {0, 7, 0}, {0, -1, 10}, {0, 5, 1}, {1, 0, 19}, {1, 1, 0}} {
		errnoIs(t, "stale", g.Ask(a.r, a.level, a.now), api.ErrStale)
		holds(t, g, p)
	}
}

// P12.1: a tick is stale by the same receiver's last asking alone, and by none that was refused.
func TestStale(t *testing.T) {
	g, p := made(t, 3, 3, 5)
	for _, c := range []struct {
		ask
		want api.Errno
	}{
		{ask{0, 1, 10}, api.OK},
		{ask{0, 2, 9}, api.ErrStale},
		{ask{0, 2, 10}, api.OK},
		{ask{1, 2, 9}, api.OK},
		{ask{1, 2, 8}, api.ErrStale},
		{ask{2, 2, 0}, api.OK},
		{ask{0, 2, api.MaxTick + 1}, api.ErrRange},
		{ask{0, 8, 500}, api.ErrRange},
		{ask{0, -2, 500}, api.ErrRange},
		{ask{3, 2, 500}, api.ErrRange},
		{ask{0, 0, 11}, api.OK},
		{ask{0, 0, 10}, api.ErrStale},
		{ask{2, 5, api.MaxTick}, api.OK},
		{ask{2, 5, api.MaxTick - 1}, api.ErrStale},
		{ask{2, 4, api.MaxTick}, api.OK},
		{ask{1, 4, 9}, api.OK},
	} {
		errnoIs(t, "Ask", do(t, g, p, c.ask), c.want)
		holds(t, g, p)
	}
}

// P12.1, P12.2: every row of a few askings by one receiver, at ticks that lie as near as the delays; delays of 0, equal ones, and either greater.
func TestEveryShortRow(t *testing.T) {
	levels := []int{-1, 0, 1, top}
	var each func(g *Group, p *plain, tick, left int)
	each = func(g *Group, p *plain, tick, left int) {
		for _, level := range levels {
			for step := range 4 {
				c, q := g.Copy(), p.copy()
				do(t, c, q, ask{0, level, tick + step})
				for now := tick + step; now < tick+step+5; now++ {
					levelSame(t, c, q, 0, now)
				}
				if left > 1 {
					each(c, q, tick+step, left-1)
				}
			}
		}
		asksSame(t, g, p)
	}
	for _, delays := range [][2]int{{0, 0}, {0, 2}, {2, 0}, {1, 1}, {1, 3}, {3, 1}, {2, 2}} {
		g, p := made(t, 1, delays[0], delays[1])
		each(g, p, 0, 4)
	}
}

// chance is an asking whose receivers and ticks meet often enough, and whose numbers sometimes lie at the edges.
func chance(r *rand.Rand, receivers, tick int) ask {
	a := ask{r.IntN(receivers), r.IntN(api.MaxLayers+1) - 1, tick}
	switch r.IntN(60) {
	case 0:
		a.r = edges[r.IntN(len(edges))]
	case 1:
		a.level = edges[r.IntN(len(edges))]
	case 2:
		a.now = min(edges[r.IntN(len(edges))], tick)
	case 3:
		a.now -= r.IntN(9)
	}
	return a
}

// P12.1, P12.2: long rows of any askings, copies on the way, which stay as they were.
func TestLongRows(t *testing.T) {
	for seed := range uint64(80) {
		r := rand.New(rand.NewPCG(12, seed))
		receivers := 1 + r.IntN(6)
		g, p := made(t, receivers, r.IntN(65)>>r.IntN(7), r.IntN(65)>>r.IntN(7))
		tick, stride := 0, 1+r.IntN(20)
		for range 120 {
			tick += r.IntN(stride)
			do(t, g, p, chance(r, receivers, tick))
			asksSame(t, g, p)
			for _, now := range []int{tick, tick + 1, tick + r.IntN(70), last} {
				holdsAt(t, g, p, now)
			}
			if r.IntN(30) == 0 {
				v, q := g, p.copy()
				g = g.Copy()
				defer func() { holds(t, v, q) }()
			}
		}
		holds(t, g, p)
	}
}

// P1: every mixture of the edges in every call, of a group in use.
func TestAnyArguments(t *testing.T) {
	for _, a := range edges {
		for _, b := range edges {
			for _, c := range edges {
				New(a, b, c)
				g, p := made(t, 2, 64, 0)
				do(t, g, p, ask{1, 3, 1})
				do(t, g, p, ask{a, b, c})
				asksSame(t, g, p)
			}
			g, _ := run(t, 2, 64, 0)
			asked(t, g, 0, top, api.MaxTick)
			g.Level(a, b)
			if got := g.Members(a, b); !slices.IsSorted(got) || len(got) > 2 {
				t.Fatalf("Members(%d, %d): %v", a, b, got)
			}
		}
	}
}

// FuzzAsks takes each 24 bytes as three numbers: P1 at any arguments, and the model behind each asking.
func FuzzAsks(f *testing.F) {
	f.Add(3, 3, 5, false, []byte{})
	f.Add(2, 0, 64, true, []byte("\x00\x01\x0a\x00\x00\x0b\x01\x07\x09\x00\x02\x0b\x01\xff\x10\x03\x00\x10"))
	f.Add(64, 64, 0, false, []byte("\x3f\x00\x00\x00\x00\x00\x00\x00\x07\x00\x00\x00\x00\x00\x00\x00\x00\x00\x00\x00\x00\x01\x00\x00"))
	f.Add(first, last, -1, true, []byte("p"))
	f.Fuzz(func(t *testing.T, receivers, join, leave int, small bool, b []byte) {
		g, e := New(receivers, join, leave)
		right := receivers >= 1 && receivers <= 64 && join >= 0 && join <= 64 && leave >= 0 && leave <= 64
		if (e == api.OK) != right || (g != nil) != right || (!right && e != api.ErrRange) {
			t.Fatalf("New(%d, %d, %d): %v, %d", receivers, join, leave, g, e)
		}
		if !right {
			return
		}
		p := newPlain(receivers, join, leave)
		size := 8
		if small {
			size = 1
		}
		for ; len(b) >= 3*size; b = b[3*size:] {
			a := ask{number(b[:size]), number(b[size : 2*size]), number(b[2*size : 3*size])}
			do(t, g, p, a)
			asksSame(t, g, p)
			holdsAt(t, g, p, a.now)
			g.Level(a.level, a.r)
			g.Members(a.now, a.level)
			g.Asked(a.now)
			g = g.Copy()
		}
		holds(t, g, p)
	})
}

// number is below 0 if its last byte's highest bit is set, however many bytes it has.
func number(b []byte) int {
	n := int(int8(b[len(b)-1]))
	for i := len(b) - 2; i >= 0; i-- {
		n = n<<8 | int(b[i])
	}
	return n
}
