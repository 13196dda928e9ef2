package draws

import (
	"slices"
	"sync"
	"testing"
)

const askers = 16

// askAtOneTime has many goroutines begin together, each of which makes its calls, and tells what they were all told, rising.
func askAtOneTime(calls int, ask func(asker, call int) uint32) []uint32 {
	var told [askers][]uint32
	var all sync.WaitGroup
	begin := make(chan struct{})
	for asker := range askers {
		all.Go(func() {
			<-begin
			for call := range calls {
				told[asker] = append(told[asker], ask(asker, call))
			}
		})
	}
	close(begin)
	all.Wait()
	together := slices.Concat(told[:]...)
	slices.Sort(together)
	return together
}

// checkTogether holds what was told, rising, against the first draws, each once.
func checkTogether(t *testing.T, got, all []uint32) {
	t.Helper()
	want := slices.Clone(all)
	slices.Sort(want)
	if !slices.Equal(got, want) {
		t.Fatalf("%d told at one time are not the first %d draws", len(got), len(want))
	}
}

// P10.1: each draw is told once and none twice, and as many are counted as were told; the next one is the one behind all.
func TestNextOfMany(t *testing.T) {
	const calls = 400
	for _, l := range [][]uint32{nil, {7}, {5, 5, 5}, randomList(7, 1000), randomList(8, 3*askers*calls)} {
		all := wantDraws(l, max(len(l), askers*calls)+10)
		for range 5 {
			d := New(l)
			got := askAtOneTime(calls, func(int, int) uint32 { return d.Next() })
			checkTogether(t, got, all[:askers*calls])
			checkRest(t, d, all, askers*calls, 10)
		}
	}
}

// P10.1, P10.2: the three calls that tell, at one time, with those that tell none between them. All three are brought to the draw without its last bit.
func TestAllCallsOfMany(t *testing.T) {
	const calls = 300
	l := randomList(9, 1000)
	all := wantDraws(l, askers*calls+10)
	halves := make([]uint32, 0, len(all))
	for _, draw := range all {
		halves = append(halves, draw/2)
	}
	for range 5 {
		d := New(l)
		got := askAtOneTime(calls, func(asker, call int) uint32 {
			if place := 17 * call % (askers * calls); d.At(place) != all[place] {
				t.Errorf("At(%d): %d, not %d", place, d.At(place), all[place])
			}
			if d.Under(0) != 0 || d.Under(1<<31+1) != 0 {
				t.Errorf("Under of no bound")
			}
			switch (asker + call) % 3 {
			case 0:
				return d.Next() / 2
			case 1:
				return uint32(d.Under(1 << 31))
			}
			return uint32((d.Share() - 1) / 2)
		})
		checkTogether(t, got, halves[:askers*calls])
		checkRest(t, d, all, askers*calls, 10)
	}
}

// P10.1: Told, asked meanwhile, has counted one's own draws, never goes back, and is at most what all will ask.
func TestToldOfMany(t *testing.T) {
	const calls = 400
	d := New([]uint32{1, 2, 3})
	var last [askers]int
	askAtOneTime(calls, func(asker, call int) uint32 {
		draw := d.Next()
		told := d.Told()
		if told <= last[asker] || told < call+1 || told > askers*calls {
			t.Errorf("Told meanwhile: %d behind %d, %d of its own", told, last[asker], call+1)
		}
		last[asker] = told
		return draw
	})
	if d.Told() != askers*calls {
		t.Errorf("Told: %d, not %d", d.Told(), askers*calls)
	}
}

// P10.1: a copy that is made meanwhile goes on from a place that the first one was at.
func TestCopyOfMany(t *testing.T) {
	const calls = 200
	l := randomList(10, 500)
	all := wantDraws(l, askers*calls+10)
	d := New(l)
	got := askAtOneTime(calls, func(asker, call int) uint32 {
		c := d.Copy()
		place := c.Told()
		if place < call || place > askers*calls {
			t.Errorf("Told of a copy made meanwhile: %d", place)
			return d.Next()
		}
		for i := place; i < place+5; i++ {
			if next := c.Next(); next != all[i] {
				t.Errorf("draw %d of a copy: %d, not %d", i, next, all[i])
			}
		}
		return d.Next()
	})
	checkTogether(t, got, all[:askers*calls])
	if d.Told() != askers*calls {
		t.Errorf("Told: %d, not %d", d.Told(), askers*calls)
	}
}
