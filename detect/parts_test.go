package detect

import (
	"testing"

	"terrace/api"
)

// P15.2: Forget of each layer that expects a number; what then comes is the first one of its layer.
func TestForget(t *testing.T) {
	for forgotten := range api.MaxLayers {
		for _, g := range aways {
			d, p := made(t)
			for layer := range api.MaxLayers {
				on(t, d, p, layer, 100+layer, 1, 0)
			}
			d.Forget(forgotten)
			p.forget(forgotten)
			holds(t, d, p)
			expectsIs(t, d, forgotten, 0, false)
			lossesAre(t, d, 8)
			foundIs(t, d.Copy(), forgotten, 101+forgotten+g, 2, 0, Found{})
			on(t, d, p, forgotten, 101+forgotten+g, 2, 0)
			holds(t, d, p)
			lossesAre(t, d, 9)
			beginIs(t, d, 0, false)
			on(t, d, p, forgotten, 103+forgotten+g, 3, 0)
			holds(t, d, p)
		}
	}
}

// P15.2: Forget of a layer that expects nothing, of none that there is, and again: nothing changes.
func TestForgetNothing(t *testing.T) {
	d, p := expecting(t, 3, 100)
	on(t, d, p, 3, 105, 4, 0)
	for _, layer := range []int{first, first + 1, -8, -5, -1, 8, 9, 11, 1 << 32, 1<<32 + 3, last - 1, last, 0, 1, 2, 4, 7} {
		d.Forget(layer)
		holds(t, d, p)
	}
	expectsIs(t, d, 3, 106, true)
	d.Forget(3)
	d.Forget(3)
	p.forget(3)
	holds(t, d, p)
	v, q := made(t)
	for _, layer := range edges {
		v.Forget(layer)
		holds(t, v, q)
	}
}

// P15.2: Forget leaves the event, the history and the time as they are.
func TestForgetLeavesTheRest(t *testing.T) {
	d, p := expecting(t, 0, 0)
	on(t, d, p, 0, 2, 10, 0)
	for layer := range api.MaxLayers {
		d.Forget(layer)
		p.forget(layer)
		holds(t, d, p)
	}
	beginIs(t, d, 10, true)
	lossesAre(t, d, 3, 1)
	errnoIs(t, d, 0, 3, 9, 0, api.ErrStale)
	on(t, d, p, 0, 50, 11, 5)
	foundIs(t, d.Copy(), 0, 52, 15, 5, Found{Lost: 1})
	foundIs(t, d.Copy(), 0, 52, 16, 5, Found{Lost: 1, Event: true})
	on(t, d, p, 0, 52, 15, 5)
	holds(t, d, p)
}

// P15.2: Expects at each edge of the layers, with each number expected, 0 among them.
func TestExpects(t *testing.T) {
	for _, seq := range starts {
		for layer := range api.MaxLayers {
			d, _ := expecting(t, layer, seq)
			for _, other := range edges {
				if other == layer {
					expectsIs(t, d, other, uint32(seq), true)
				} else {
					expectsIs(t, d, other, 0, false)
				}
			}
		}
	}
}

// P15.2: Begin with no event, and behind one that began at tick 0, at the last tick, and anywhere.
func TestBegin(t *testing.T) {
	for _, tick := range []int{0, 1, 77, api.MaxTick - 1, api.MaxTick} {
		d, p := made(t)
		beginIs(t, d, 0, false)
		on(t, d, p, 0, 5, tick, 0)
		on(t, d, p, 0, 6, tick, 0)
		on(t, d, p, 0, 5, tick, 0)
		on(t, d, p, 0, 600, tick, 0)
		beginIs(t, d, 0, false)
		on(t, d, p, 0, 602, tick, 0)
		beginIs(t, d, tick, true)
		beginIs(t, d, tick, true)
		holds(t, d, p)
	}
}

// P15.2: the history is the detector's own, the same one each time: what is done to either shows in the other.
func TestHistoryIsItself(t *testing.T) {
	d, p := expecting(t, 0, 0)
	h := d.History()
	if h != d.History() {
		t.Fatal("History: another one")
	}
	if h.Start(50) {
		t.Fatal("Start ahead of the first event: true")
	}
	on(t, d, p, 0, 3, 5, 0)
	if h != d.History() || h.Open() != 4 || len(h.Closed()) != 1 || h.Closed()[0] != 1 {
		t.Fatalf("what came doesn't show: %d, %v", h.Open(), h.Closed())
	}
	if !h.Start(40) || !p.start(40) {
		t.Fatal("Start behind the first event: false")
	}
	holds(t, d, p)
	lossesAre(t, d, 4, 40)
	on(t, d, p, 0, 6, 9, 0)
	holds(t, d, p)
	lossesAre(t, d, 3, 4, 40)
	if h != d.History() || h.Start(60) {
		t.Fatal("Start behind the second event: true")
	}
	d.Forget(0)
	if h != d.History() {
		t.Fatal("History behind Forget: another one")
	}
	lossesAre(t, d, 3, 4, 40)
}

// P15.2: packets that are laid to the history itself are ahead of those that come.
func TestHistoryTakesMore(t *testing.T) {
	d, p := filled(t, 5)
	if e := d.History().Packet(1 << 10); e != api.OK {
		t.Fatalf("Packet: %d", e)
	}
	p.packet(1 << 10)
	holds(t, d, p)
	on(t, d, p, 0, p.next[0], 7, 0)
	holds(t, d, p)
	lossesAre(t, d, 1030, 1)
}

// deeds are what may be done to a detector that expects 100 of layer 0, had an event at tick 10, and has come to tick 12.
func deeds(t *testing.T) []func(d *Detect, p *plain) {
	return []func(d *Detect, p *plain){
		func(d *Detect, p *plain) { on(t, d, p, 0, 100, 12, 0) },
		func(d *Detect, p *plain) { on(t, d, p, 0, 103, 20, 0) },
		func(d *Detect, p *plain) { on(t, d, p, 0, 103, 20, 50); on(t, d, p, 0, 105, 20, 0) },
		func(d *Detect, p *plain) { on(t, d, p, 0, 99, 90, 0) },
		func(d *Detect, p *plain) { on(t, d, p, 5, 1, 12, 0); on(t, d, p, 5, 3, 12, 2) },
		func(d *Detect, p *plain) { d.Forget(0); p.forget(0) },
		func(d *Detect, p *plain) { d.Forget(7); p.forget(7); on(t, d, p, 7, 4000, 12, 0) },
		func(d *Detect, p *plain) {
			if got, want := d.History().Start(33), p.start(33); got != want {
				t.Fatalf("Start: %v, not %v", got, want)
			}
		},
	}
}

// copied is what deeds begin with.
func copied(t *testing.T) (*Detect, *plain) {
	d, p := expecting(t, 0, 97)
	on(t, d, p, 7, 4000, 9, 0)
	on(t, d, p, 0, 99, 10, 0)
	on(t, d, p, 7, 4001, 12, 0)
	return d, p
}

// P15.2: a copy tells the same, its history too, and each goes its own way.
func TestCopy(t *testing.T) {
	for i, do := range deeds(t) {
		for j, other := range deeds(t) {
			d, p := copied(t)
			a, q := d.Copy(), p.copy()
			b, r := d.Copy(), p.copy()
			if a == d || a == b || a.History() == d.History() || a.History() == b.History() {
				t.Fatal("Copy: the same one")
			}
			holds(t, a, q)
			do(a, q)
			holds(t, a, q)
			holds(t, b, r)
			holds(t, d, p)
			other(d, p)
			holds(t, a, q)
			holds(t, b, r)
			holds(t, d, p)
			do(b, r)
			other(a.Copy(), q.copy())
			holds(t, a, q)
			holds(t, b, r)
			holds(t, d, p)
			if a.Copy().History() == a.History() {
				t.Fatalf("deeds %d and %d: a copy's history is the same one", i, j)
			}
		}
	}
}

// P15.2: a copy has the time and the event of the other one, and a new detector's copy is a new one.
func TestCopyTellsTheSame(t *testing.T) {
	d, p := made(t)
	holds(t, d.Copy(), p)
	d, p = copied(t)
	c := d.Copy()
	errnoIs(t, c, 0, 100, 11, 0, api.ErrStale)
	foundIs(t, c, 0, 101, 12, 2, Found{Lost: 1})
	beginIs(t, c, 10, true)
	foundIs(t, c, 0, 103, 13, 2, Found{Lost: 1, Event: true})
	beginIs(t, c, 13, true)
	holds(t, d, p)
	beginIs(t, d, 10, true)
}

// P15.1, P15.2: telling changes nothing, however often it is done.
func TestTellingChangesNothing(t *testing.T) {
	d, p := copied(t)
	for range 3 {
		holds(t, d, p)
		d.Copy()
		d.History().Mean()
	}
	on(t, d, p, 0, 100, 12, 0)
	holds(t, d, p)
}
