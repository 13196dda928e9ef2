package detect

import (
	"maps"
	"math"
	"slices"
	"testing"

	"terrace/api"
)

const (
	first = math.MinInt
	last  = math.MaxInt
	most  = 1 << 20 // the greatest interval
	half  = 1 << 31
	round = 1 << 32 // so many numbers there are
)

// edges are the numbers that the chapter and the language make special.
var edges = []int{
	first, first + 1, -api.MaxTick, -2, -1, 0, 1, 2, 6, api.MaxLayers - 1, api.MaxLayers, api.MaxLayers + 1,
	255, 256, 257, most, half, round, round + 1, api.MaxTick - 1, api.MaxTick, api.MaxTick + 1, last - 1, last,
}

// starts are numbers about which the numbers behind and ahead of them are tried, those that go around among them.
var starts = []int{0, 1, 2, 100, 255, 256, 257, 70000, half - 257, half - 1, half, half + 1, round - 258, round - 257, round - 256, round - 2, round - 1}

// aways are how far behind the expected number another one is, ahead of it with a minus.
var aways = []int{
	0, 1, 2, 3, 254, 255, 256, 257, 258, 1000, 65536, half - 2, half - 1, half,
	-1, -2, -3, -255, -256, -257, -1000, -65536, -half + 2, -half + 1,
}

// plain is what a detector is held against: what was expected in whole numbers, and all events and intervals there ever were.
type plain struct {
	next   map[int]int // by layer
	begins []int       // when each event began
	ticks  []int       // of all that wasn't refused
	ever   []int       // the closed intervals, the oldest first
	open   int
}

func (p *plain) copy() *plain {
	return &plain{maps.Clone(p.next), slices.Clone(p.begins), slices.Clone(p.ticks), slices.Clone(p.ever), p.open}
}

// away is how far the one number is behind the other one, from 0 to 2^32 - 1.
func away(from, to int) int { return ((to-from)%round + round) % round }

func (p *plain) packet(n int) {
	if p.open+n <= 1048576 {
		p.open += n
	}
}

// loses lets g packets be lost and tells whether that is an event, and the first one.
func (p *plain) loses(g, tick, rtt int) Found {
	f := Found{Lost: g}
	if len(p.begins) == 0 || tick-p.begins[len(p.begins)-1] > rtt {
		f.Event, f.First = true, len(p.begins) == 0
		p.begins = append(p.begins, tick)
		p.ever, p.open = append(p.ever, p.open), 0
	}
	p.packet(g)
	return f
}

func (p *plain) on(layer, seq, tick, rtt int) (Found, api.Errno) {
	switch {
	case layer < 0, layer > 7, tick < 0, tick > 1<<40, rtt < 0, rtt > 1<<40:
		return Found{}, 11
	case slices.ContainsFunc(p.ticks, func(t int) bool { return t > tick }):
		return Found{}, 23
	}
	p.ticks = append(p.ticks, tick)
	var f Found
	if next, ok := p.next[layer]; ok {
		switch g := away(next, seq); {
		case g >= half:
			return f, 0
		case g > 0 && g <= 256:
			f = p.loses(g, tick, rtt)
		}
	}
	p.packet(1)
	p.next[layer] = (seq + 1) % round
	return f, 0
}

func (p *plain) forget(layer int) { delete(p.next, layer) }

// start is what is done by the history's Start.
func (p *plain) start(n int) bool {
	if len(p.ever) != 1 || n < 1 || n > 1048576 {
		return false
	}
	p.ever[0] = n
	return true
}

// closed are the last eight, the newest first.
func (p *plain) closed() []int {
	l := slices.Clone(p.ever[max(0, len(p.ever)-8):])
	slices.Reverse(l)
	return l
}

// now is the newest tick of all that wasn't refused.
func (p *plain) now() int { return slices.Max(append([]int{0}, p.ticks...)) }

// holds is all that a detector tells, held against the model.
func holds(t testing.TB, d *Detect, p *plain) {
	t.Helper()
	for _, layer := range []int{first, -1, 0, 1, 2, 3, 4, 5, 6, 7, 8, 9, last} {
		want, wantOK := p.next[layer]
		if got, ok := d.Expects(layer); int(got) != want || ok != wantOK {
			t.Fatalf("Expects(%d): %d %v, not %d %v", layer, got, ok, want, wantOK)
		}
	}
	begin := 0
	if len(p.begins) > 0 {
		begin = p.begins[len(p.begins)-1]
	}
	if got, ok := d.Begin(); got != begin || ok != (len(p.begins) > 0) {
		t.Fatalf("Begin: %d %v, not %d, the %d. one", got, ok, begin, len(p.begins))
	}
	if got := d.History().Open(); got != p.open {
		t.Fatalf("Open: %d, not %d", got, p.open)
	}
	if got, want := d.History().Closed(), p.closed(); !slices.Equal(got, want) {
		t.Fatalf("Closed: %v, not %v", got, want)
	}
}

// on lets a number come, whatever it is, and holds what is told of it against the model.
func on(t testing.TB, d *Detect, p *plain, layer, seq, tick, rtt int) (Found, api.Errno) {
	t.Helper()
	seq = away(0, seq)
	want, wantE := p.on(layer, seq, tick, rtt)
	f, e := d.On(layer, uint32(seq), tick, rtt)
	if f != want || e != wantE {
		t.Fatalf("On(%d, %d, %d, %d): %+v %d, not %+v %d", layer, seq, tick, rtt, f, e, want, wantE)
	}
	return f, e
}

func made(t testing.TB) (*Detect, *plain) {
	t.Helper()
	d := New()
	if d == nil || d.History() == nil {
		t.Fatal("New: nil")
	}
	return d, &plain{next: map[int]int{}}
}

// expecting makes a detector that expects a number of a layer, at tick 0; its history has one packet.
func expecting(t testing.TB, layer, seq int) (*Detect, *plain) {
	t.Helper()
	d, p := made(t)
	on(t, d, p, layer, seq-1, 0, 0)
	expectsIs(t, d, layer, uint32(away(0, seq)), true)
	lossesAre(t, d, 1)
	return d, p
}

// foundIs lets a number come that isn't refused, and holds what is told of it against what is written out.
func foundIs(t testing.TB, d *Detect, layer, seq, tick, rtt int, want Found) {
	t.Helper()
	if f, e := d.On(layer, uint32(away(0, seq)), tick, rtt); f != want || e != api.OK {
		t.Fatalf("On(%d, %d, %d, %d): %+v %d, not %+v", layer, seq, tick, rtt, f, e, want)
	}
}

func errnoIs(t testing.TB, d *Detect, layer, seq, tick, rtt int, want api.Errno) {
	t.Helper()
	if f, e := d.On(layer, uint32(away(0, seq)), tick, rtt); f != (Found{}) || e != want {
		t.Fatalf("On(%d, %d, %d, %d): %+v %d, not %d", layer, seq, tick, rtt, f, e, want)
	}
}

func expectsIs(t testing.TB, d *Detect, layer int, want uint32, wantOK bool) {
	t.Helper()
	if got, ok := d.Expects(layer); got != want || ok != wantOK {
		t.Fatalf("Expects(%d): %d %v, not %d %v", layer, got, ok, want, wantOK)
	}
}

func beginIs(t testing.TB, d *Detect, want int, wantOK bool) {
	t.Helper()
	if got, ok := d.Begin(); got != want || ok != wantOK {
		t.Fatalf("Begin: %d %v, not %d %v", got, ok, want, wantOK)
	}
}

// lossesAre are the history's intervals, the open one and the closed ones, the newest first.
func lossesAre(t testing.TB, d *Detect, open int, closed ...int) {
	t.Helper()
	if h := d.History(); h.Open() != open || !slices.Equal(h.Closed(), closed) {
		t.Fatalf("History: open %d, closed %v, not %d and %v", h.Open(), h.Closed(), open, closed)
	}
}
