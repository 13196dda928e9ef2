package detect

import (
	"testing"

	"terrace/api"
)

// P15.1: a loss at a tick of the event's begin plus rtt is of that event, one above it is a new one.
func TestEventEnds(t *testing.T) {
	for _, begin := range []int{0, 1, 100, 1 << 39} {
		for _, rtt := range []int{0, 1, 2, 10, 1 << 38} {
			d, p := expecting(t, 0, 0)
			on(t, d, p, 0, 1, begin, rtt)
			beginIs(t, d, begin, true)
			for _, tick := range []int{begin, begin + rtt/2, begin + rtt} {
				foundIs(t, d.Copy(), 0, 4, tick, rtt, Found{Lost: 2})
			}
			foundIs(t, d.Copy(), 0, 4, begin+rtt+1, rtt, Found{Lost: 2, Event: true})
			on(t, d, p, 0, 4, begin+rtt, rtt)
			holds(t, d, p)
			lossesAre(t, d, 5, 1)
			// The begin stays while losses are of it, so the next one is measured from there.
			beginIs(t, d, begin, true)
			foundIs(t, d, 0, 6, begin+rtt+1, rtt, Found{Lost: 1, Event: true})
			lossesAre(t, d, 2, 5, 1)
			beginIs(t, d, begin+rtt+1, true)
		}
	}
}

// P15.1: with an rtt of 0 the same tick alone is of one event; with MaxTick all ticks are.
func TestEventRoundTrips(t *testing.T) {
	d, _ := expecting(t, 0, 0)
	foundIs(t, d, 0, 1, 0, 0, Found{Lost: 1, Event: true, First: true})
	foundIs(t, d, 0, 3, 0, 0, Found{Lost: 1})
	foundIs(t, d, 0, 5, 1, 0, Found{Lost: 1, Event: true})
	foundIs(t, d, 0, 7, 1, 0, Found{Lost: 1})
	foundIs(t, d, 0, 9, 2, api.MaxTick, Found{Lost: 1})
	foundIs(t, d, 0, 11, api.MaxTick, api.MaxTick, Found{Lost: 1})
	foundIs(t, d, 0, 13, api.MaxTick, 0, Found{Lost: 1, Event: true})
	foundIs(t, d, 0, 15, api.MaxTick, 0, Found{Lost: 1})
	beginIs(t, d, api.MaxTick, true)

	d, _ = expecting(t, 0, 0)
	foundIs(t, d, 0, 1, 0, api.MaxTick, Found{Lost: 1, Event: true, First: true})
	foundIs(t, d.Copy(), 0, 3, api.MaxTick, api.MaxTick-1, Found{Lost: 1, Event: true})
	foundIs(t, d, 0, 3, api.MaxTick, api.MaxTick, Found{Lost: 1})
	beginIs(t, d, 0, true)
}

// P15.1: the round trip is that of the loss's own packet, not of one ahead of it.
func TestEventByItsOwnRoundTrip(t *testing.T) {
	d, p := expecting(t, 0, 0)
	on(t, d, p, 0, 1, 10, 100)
	on(t, d, p, 0, 3, 15, 4)
	beginIs(t, d, 15, true)
	on(t, d, p, 0, 5, 30, 15)
	beginIs(t, d, 15, true)
	on(t, d, p, 0, 7, 30, 14)
	beginIs(t, d, 30, true)
	on(t, d, p, 0, 8, 90, 0)
	on(t, d, p, 0, 9, 95, 1000)
	on(t, d, p, 0, 11, 96, 66)
	beginIs(t, d, 30, true)
	on(t, d, p, 0, 13, 97, 66)
	beginIs(t, d, 97, true)
	holds(t, d, p)
}

// P15.1: an event begins at its own tick also behind packets of which none was lost.
func TestEventBehindQuiet(t *testing.T) {
	d, p := expecting(t, 0, 0)
	for n := range 50 {
		on(t, d, p, 0, n, n, 0)
	}
	beginIs(t, d, 0, false)
	foundIs(t, d.Copy(), 0, 51, 77, api.MaxTick, Found{Lost: 1, Event: true, First: true})
	on(t, d, p, 0, 51, 77, api.MaxTick)
	beginIs(t, d, 77, true)
	lossesAre(t, d, 2, 51)
	for n := range 50 {
		on(t, d, p, 0, 52+n, 100+n, 0)
		beginIs(t, d, 77, true)
	}
	lossesAre(t, d, 52, 51)
}

// P15.1: First is told just once, also behind more than eight events; the ninth interval is gone.
func TestManyEvents(t *testing.T) {
	d, p := expecting(t, 0, 0)
	for i := range 25 {
		seq := int(p.next[0])
		foundIs(t, d.Copy(), 0, seq+i+1, 10*i, 9, Found{Lost: i + 1, Event: true, First: i == 0})
		on(t, d, p, 0, seq+i+1, 10*i, 9)
		beginIs(t, d, 10*i, true)
		holds(t, d, p)
		// Those of the same event close nothing.
		on(t, d, p, 0, seq+i+3, 10*i+9, 9)
		holds(t, d, p)
	}
	// Of the event i, i + 1 were lost, and then one more; two came.
	lossesAre(t, d, 28, 27, 26, 25, 24, 23, 22, 21, 20)
}

// P15.1: losses of several layers are of one event together.
func TestEventOfLayers(t *testing.T) {
	d, p := made(t)
	for layer := range api.MaxLayers {
		on(t, d, p, layer, 10*layer, 1, 5)
	}
	for layer := range api.MaxLayers {
		want := Found{Lost: layer + 1, Event: layer == 0, First: layer == 0}
		foundIs(t, d.Copy(), layer, 10*layer+layer+2, 10+layer/2, 5, want)
		on(t, d, p, layer, 10*layer+layer+2, 10+layer/2, 5)
		holds(t, d, p)
	}
	beginIs(t, d, 10, true)
	lossesAre(t, d, 36+8, 8)
	foundIs(t, d.Copy(), 3, 100, 15, 5, Found{Lost: 100 - 36})
	foundIs(t, d, 3, 100, 16, 5, Found{Lost: 100 - 36, Event: true})
	foundIs(t, d, 4, 100, 16, 5, Found{Lost: 100 - 47})
	lossesAre(t, d, 64+1+53+1, 44, 8)
}

// P15.1: a number that is too far behind is no event, and closes nothing.
func TestTooFarIsNoEvent(t *testing.T) {
	d, p := expecting(t, 0, 0)
	on(t, d, p, 0, 257, 1, 0)
	on(t, d, p, 0, 258+257, 2, 0)
	beginIs(t, d, 0, false)
	lossesAre(t, d, 3)
	foundIs(t, d.Copy(), 0, 516+256, 3, 0, Found{Lost: 256, Event: true, First: true})
	on(t, d, p, 0, 516+256, 3, 0)
	on(t, d, p, 0, 773+257, 30, 0)
	holds(t, d, p)
	beginIs(t, d, 3, true)
	lossesAre(t, d, 258, 3)
}

// filled is a detector whose history's open interval has so many packets, all of one event that began at tick 1.
func filled(t testing.TB, open int) (*Detect, *plain) {
	t.Helper()
	d, p := expecting(t, 0, 0)
	seq := 1
	on(t, d, p, 0, seq, 1, 0)
	for ; p.open+257 <= open; seq += 257 {
		on(t, d, p, 0, seq+257, 1, 0)
	}
	for p.open < open {
		seq++
		on(t, d, p, 0, seq, 1, 0)
	}
	lossesAre(t, d, open, 1)
	return d, p
}

// P15.1: at the greatest open interval and just below it packets count as long as the history takes them: all that were
// lost at once, and the one that came by itself.
func TestGreatestInterval(t *testing.T) {
	for _, c := range []struct{ room, lost, open int }{
		{0, 0, most}, {0, 1, most}, {0, 256, most},
		{1, 0, most}, {1, 1, most}, {1, 2, most}, {1, 256, most},
		{2, 0, most - 1}, {2, 1, most}, {2, 2, most}, {2, 3, most - 1}, {2, 256, most - 1},
		{3, 1, most - 1}, {3, 2, most}, {3, 3, most}, {3, 4, most - 2},
		{10, 9, most}, {10, 10, most}, {10, 11, most - 9}, {10, 256, most - 9},
		{256, 254, most - 1}, {256, 255, most}, {256, 256, most},
		{257, 255, most - 1}, {257, 256, most}, {258, 256, most - 1},
	} {
		d, p := filled(t, most-c.room)
		seq := p.next[0]
		v, q := d.Copy(), p.copy()
		foundIs(t, d.Copy(), 0, seq+c.lost, 9, 8, Found{Lost: c.lost})
		on(t, d, p, 0, seq+c.lost, 9, 8)
		holds(t, d, p)
		lossesAre(t, d, c.open, 1)
		expectsIs(t, d, 0, uint32(seq+c.lost+1), true)
		if c.lost == 0 {
			continue
		}
		// A new event closes the interval first, so there is room.
		on(t, v, q, 0, seq+c.lost, 9, 7)
		holds(t, v, q)
		lossesAre(t, v, c.lost+1, most-c.room, 1)
	}
}

// P15.1: the first packet of a layer, the expected one and one too far behind count as long as the history takes them.
func TestGreatestIntervalWithoutLoss(t *testing.T) {
	for _, room := range []int{0, 1, 2} {
		d, p := filled(t, most-room)
		for i := range 4 {
			on(t, d, p, 1, 300*i, 10, 0)
			holds(t, d, p)
			lossesAre(t, d, min(most, most-room+i+1), 1)
		}
		on(t, d, p, 1, 901, 10, 0)
		on(t, d, p, 2, 7, 10, 0)
		holds(t, d, p)
		lossesAre(t, d, most, 1)
		foundIs(t, d, 2, 10, 11, 9, Found{Lost: 2, Event: true})
		lossesAre(t, d, 3, most, 1)
	}
}
