package detect

import (
	"testing"

	"terrace/api"
)

// P15.1: the chapter's example.
func TestExample(t *testing.T) {
	d := New()
	foundIs(t, d, 0, 5, 1, 10, Found{})
	foundIs(t, d, 0, 6, 2, 10, Found{})
	foundIs(t, d, 0, 9, 3, 10, Found{Lost: 2, Event: true, First: true})
	expectsIs(t, d, 0, 10, true)
	beginIs(t, d, 3, true)
	lossesAre(t, d, 3, 2)
}

// P15.1: all that a new detector tells.
func TestNew(t *testing.T) {
	d, p := made(t)
	holds(t, d, p)
	for layer := range api.MaxLayers {
		expectsIs(t, d, layer, 0, false)
	}
	beginIs(t, d, 0, false)
	lossesAre(t, d, 0)
	if d.History().Start(5) {
		t.Fatal("Start of a new detector's history: true")
	}
}

// P15.1: two new detectors have nothing to do with each other.
func TestNewIsNew(t *testing.T) {
	d, p := made(t)
	v, q := made(t)
	on(t, d, p, 0, 5, 3, 0)
	on(t, d, p, 0, 9, 4, 0)
	holds(t, v, q)
	on(t, v, q, 0, 70, 1, 0)
	on(t, v, q, 2, 70, 1, 0)
	holds(t, d, p)
	holds(t, v, q)
}

// refused lets a packet of layer 0, two of which would be lost at least, come so and holds that nothing has changed.
func refused(t *testing.T, d *Detect, p *plain, layer, tick, rtt int, want api.Errno) {
	t.Helper()
	open, begins := p.open, len(p.begins)
	errnoIs(t, d, layer, 103, tick, rtt, want)
	on(t, d, p, layer, 103, tick, rtt)
	holds(t, d, p)
	if p.open != open || len(p.begins) != begins {
		t.Fatalf("the model has changed")
	}
}

// P15.1: layer, tick and rtt at each edge, ahead of and behind a loss event.
func TestOnRange(t *testing.T) {
	for _, n := range []int{first, first + 1, -1 << 40, -1, 8, 9, 1 << 32, 1<<32 + 1, last} {
		for layers := range 2 {
			d, p := expecting(t, 0, 100)
			if layers > 0 {
				on(t, d, p, 0, 101, 4, 0)
			}
			refused(t, d, p, n, 5, 5, api.ErrRange)
		}
	}
	for _, n := range []int{first, first + 1, -1 << 40, -2, -1, 1<<40 + 1, 1<<40 + 2, last - 1, last} {
		d, p := expecting(t, 0, 100)
		refused(t, d, p, 0, n, 5, api.ErrRange)
		refused(t, d, p, 0, 5, n, api.ErrRange)
		refused(t, d, p, 0, n, n, api.ErrRange)
		on(t, d, p, 0, 101, 4, 0)
		refused(t, d, p, 0, n, 5, api.ErrRange)
		refused(t, d, p, 0, 5, n, api.ErrRange)
	}
	for _, layer := range []int{0, 1, api.MaxLayers - 1} {
		for _, tick := range []int{0, 1, api.MaxTick - 1, api.MaxTick} {
			for _, rtt := range []int{0, 1, api.MaxTick - 1, api.MaxTick} {
				d, p := expecting(t, layer, 100)
				foundIs(t, d.Copy(), layer, 103, tick, rtt, Found{Lost: 3, Event: true, First: true})
				on(t, d, p, layer, 103, tick, rtt)
				holds(t, d, p)
			}
		}
	}
}

// P15.1: each of the layers is one of its own, whatever the others expect.
func TestOnLayers(t *testing.T) {
	d, p := made(t)
	for layer := range api.MaxLayers {
		on(t, d, p, layer, 1000*layer, layer, 0)
		holds(t, d, p)
	}
	for layer := api.MaxLayers - 1; layer >= 0; layer-- {
		foundIs(t, d.Copy(), layer, 1000*layer+1, 20, 0, Found{})
		foundIs(t, d.Copy(), layer, 1000*layer+3, 20, 0, Found{Lost: 2, Event: true, First: true})
		on(t, d, p, layer, 1000*layer+1, 20, 0)
		holds(t, d, p)
	}
	lossesAre(t, d, 16)
}

// P15.1: a tick below that of the On ahead of it, the same again, and one above it.
func TestOnStale(t *testing.T) {
	for _, tick := range []int{1, 2, 50, api.MaxTick - 1, api.MaxTick} {
		d, p := expecting(t, 0, 100)
		on(t, d, p, 0, 100, tick, 0)
		for _, below := range []int{0, tick / 2, tick - 1} {
			refused(t, d, p, 0, below, 0, api.ErrStale)
			refused(t, d, p, 7, below, api.MaxTick, api.ErrStale)
		}
		on(t, d, p, 0, 103, tick, 0)
		holds(t, d, p)
		lossesAre(t, d, 3, 2)
		on(t, d, p, 0, 104, tick, 0)
		if _, e := on(t, d, p, 0, 105, tick+1, 0); (e == api.OK) != (tick < api.MaxTick) {
			t.Fatalf("On at %d: %d", tick+1, e)
		}
		holds(t, d, p)
	}
}

// P15.1: a tick that was refused doesn't count; the tick of an old packet does.
func TestOnTicksThatCount(t *testing.T) {
	d, p := expecting(t, 0, 100)
	on(t, d, p, 0, 100, 10, 0)
	errnoIs(t, d, 8, 101, 60, 0, api.ErrRange)
	errnoIs(t, d, 0, 101, 60, -1, api.ErrRange)
	errnoIs(t, d, 0, 101, 60, api.MaxTick+1, api.ErrRange)
	errnoIs(t, d, 0, 101, api.MaxTick+1, 0, api.ErrRange)
	on(t, d, p, 0, 101, 20, 0)
	holds(t, d, p)
	errnoIs(t, d, 0, 102, 5, 0, api.ErrStale)
	errnoIs(t, d, 0, 102, 19, 0, api.ErrStale)
	on(t, d, p, 0, 102, 20, 0)
	foundIs(t, d, 0, 101, 30, 0, Found{})
	errnoIs(t, d, 0, 103, 29, 0, api.ErrStale)
	foundIs(t, d, 0, 103, 30, 0, Found{})
	foundIs(t, d, 3, 5, 40, 0, Found{})
	errnoIs(t, d, 0, 104, 39, 0, api.ErrStale)
	d.Forget(3)
	errnoIs(t, d, 0, 104, 39, 0, api.ErrStale)
	errnoIs(t, d, 3, 104, 39, 0, api.ErrStale)
	lossesAre(t, d, 6)
}

// P15.1: ErrRange comes ahead of ErrStale.
func TestOnRangeAheadOfStale(t *testing.T) {
	d, p := expecting(t, 0, 100)
	on(t, d, p, 0, 100, 10, 0)
	for _, layer := range []int{first, -1, api.MaxLayers, last} {
		refused(t, d, p, layer, 9, 0, api.ErrRange)
	}
	for _, n := range []int{first, -1, api.MaxTick + 1, last} {
		refused(t, d, p, 0, 9, n, api.ErrRange)
		refused(t, d, p, 0, 0, n, api.ErrRange)
	}
	for _, n := range []int{first, -1} {
		refused(t, d, p, 0, n, 0, api.ErrRange)
	}
	refused(t, d, p, 0, 9, 0, api.ErrStale)
}

// P15.1: the first number of a layer, each that there may be.
func TestFirstNumber(t *testing.T) {
	for layer := range api.MaxLayers {
		for _, seq := range starts {
			d, p := made(t)
			foundIs(t, d.Copy(), layer, seq, 7, 3, Found{})
			on(t, d, p, layer, seq, 7, 3)
			holds(t, d, p)
			expectsIs(t, d, layer, uint32(away(0, seq+1)), true)
			lossesAre(t, d, 1)
			beginIs(t, d, 0, false)
		}
	}
}

// P15.1: numbers behind the expected one and ahead of it, from any number on, with and without an event ahead of it.
func TestNumbers(t *testing.T) {
	for _, start := range starts {
		for _, g := range aways {
			for _, rtt := range []int{0, 4, 5, 6} {
				d, p := expecting(t, 2, start)
				on(t, d, p, 2, start+g, 5, rtt)
				holds(t, d, p)
				// The newest packet comes again: it is old now, if it was not old ahead of that.
				on(t, d, p, 2, start+g, 10, rtt)
				holds(t, d, p)
				on(t, d, p, 2, start+g+5, 10, rtt)
				holds(t, d, p)
			}
		}
	}
}

// P15.1: what comes of each distance, written out.
func TestNumbersNamed(t *testing.T) {
	for _, c := range []struct {
		behind int
		lost   int
		old    bool
	}{
		{0, 0, false}, {1, 1, false}, {2, 2, false}, {255, 255, false}, {256, 256, false}, {257, 0, false}, {258, 0, false},
		{512, 0, false}, {half - 1, 0, false}, {half, 0, true}, {half + 1, 0, true}, {-half + 1, 0, true}, {-257, 0, true},
		{-256, 0, true}, {-2, 0, true}, {-1, 0, true},
	} {
		for _, start := range starts {
			d, _ := expecting(t, 7, start)
			event := c.lost > 0
			foundIs(t, d, 7, start+c.behind, 9, 4, Found{Lost: c.lost, Event: event, First: event})
			beginIs(t, d, 9*min(1, c.lost), event)
			switch {
			case c.old:
				expectsIs(t, d, 7, uint32(away(0, start)), true)
				lossesAre(t, d, 1)
			case event:
				expectsIs(t, d, 7, uint32(away(0, start+c.behind+1)), true)
				lossesAre(t, d, c.lost+1, 1)
			default:
				expectsIs(t, d, 7, uint32(away(0, start+c.behind+1)), true)
				lossesAre(t, d, 2)
			}
		}
	}
}

// P15.1: numbers one by one past 2^32 - 1, and with one left out at each place there.
func TestAround(t *testing.T) {
	for out := -4; out <= 4; out++ {
		d, p := expecting(t, 0, -6)
		for n := -6; n < 6; n++ {
			if n == out {
				continue
			}
			lost := 0
			if n == out+1 {
				lost = 1
			}
			if f, _ := on(t, d, p, 0, n, 10+n, 3); f.Lost != lost || f.Event != (lost > 0) {
				t.Fatalf("%d left out: of %d: %+v", out, n, f)
			}
			holds(t, d, p)
		}
	}
}

// P15.1: a packet that is lost by one that came early is old when it comes; it is not lost less by that.
func TestTurnedOrder(t *testing.T) {
	d, _ := expecting(t, 0, 10)
	foundIs(t, d, 0, 12, 1, 5, Found{Lost: 2, Event: true, First: true})
	foundIs(t, d, 0, 11, 2, 5, Found{})
	foundIs(t, d, 0, 10, 3, 5, Found{})
	foundIs(t, d, 0, 12, 3, 5, Found{})
	foundIs(t, d, 0, 13, 4, 5, Found{})
	lossesAre(t, d, 4, 1)
	beginIs(t, d, 1, true)
}
