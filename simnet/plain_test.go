package simnet

import (
	"bytes"
	"iter"
	"math"
	"slices"
	"testing"

	"terrace/api"
	"terrace/group"
)

const (
	first = math.MinInt
	last  = math.MaxInt
	whole = math.MaxInt // the loop that is never broken off
)

// edges are the numbers that the chapter and the language make special.
var edges = []int{
	first, first + 1, -api.MaxTick, -65, -64, -9, -8, -2, -1, 0, 1, 2, 3, 4, 5, 7, api.MaxLayers, api.MaxLayers + 1,
	63, 64, 65, api.MaxQueue - 1, api.MaxQueue, api.MaxQueue + 1, api.MaxPacket, api.MaxPacket + 1, 1 << 31, 1 << 32,
	api.MaxTick - 1, api.MaxTick, api.MaxTick + 1, api.MaxTick + 64, api.MaxTick + 128, 2 * api.MaxTick, last - 1, last,
}

// parcel is a message of the model.
type parcel struct {
	due  int
	text string
}

// plain is what a net is held against: a group, all the fates, and a box for each receiver and behind these one for the
// sender, with all that was put there and is still there, in the order in which it was put.
type plain struct {
	config Config
	group  *group.Group
	fates  []Fate
	boxes  [][]parcel
	stats  Stats
}

func newPlain(c Config, fates []Fate) *plain {
	g, _ := group.New(c.Receivers, c.Join, c.Leave)
	return &plain{config: c, group: g, fates: slices.Clone(fates), boxes: make([][]parcel, c.Receivers+1)}
}

func (p *plain) copy() *plain {
	c := &plain{p.config, p.group.Copy(), p.fates, nil, p.stats}
	for _, box := range p.boxes {
		c.boxes = append(c.boxes, slices.Clone(box))
	}
	return c
}

// sender is the sender's box.
func (p *plain) sender() int { return p.config.Receivers }

func (p *plain) used() int { return min(p.stats.Sent, len(p.fates)) }

// turned is the text with one bit turned; the bits are counted one by one.
func turned(text string, bit int) string {
	if text == "" {
		return text
	}
	b := []byte(text)
	bit = (bit%(8*len(b)) + 8*len(b)) % (8 * len(b))
	b[bit/8] ^= 1 << (bit % 8)
	return string(b)
}

// cut is how many more ticks a late one's N makes.
func cut(n int) int {
	switch {
	case n < 0:
		return 0
	case n > 64:
		return 64
	}
	return n
}

// pass is one message to one box.
func (p *plain) pass(box int, text string, now int) {
	var fate Fate
	if p.used() < len(p.fates) {
		fate = p.fates[p.used()]
	}
	p.stats.Sent++
	copies, due := 1, now+p.config.Delay
	switch fate.Kind {
	case 1:
		p.stats.Lost++
		copies = 0
	case 2:
		p.stats.Doubled++
		copies = 2
	case 3:
		p.stats.Late++
		due += cut(fate.N)
	case 4:
		p.stats.Turned++
		text = turned(text, fate.N)
	}
	for range copies {
		if len(p.boxes[box]) >= p.config.Room {
			p.stats.Dropped++
			continue
		}
		p.boxes[box] = append(p.boxes[box], parcel{due, text})
	}
}

func (p *plain) send(layer int, text string, now int) (int, api.Errno) {
	if layer < 0 || layer > 7 || now < 0 || now > 1<<40 || len(text) > 320 {
		return 0, api.ErrRange
	}
	count := 0
	for r := range p.config.Receivers {
		if level, _ := p.group.Level(r, now); level >= layer {
			p.pass(r, text, now)
			count++
		}
	}
	return count, api.OK
}

func (p *plain) up(r int, text string, now int) api.Errno {
	if r < 0 || r >= p.config.Receivers || now < 0 || now > 1<<40 || len(text) > 320 {
		return api.ErrRange
	}
	p.pass(p.sender(), text, now)
	return api.OK
}

// take is the loop over what is due in a box, broken off behind the message that is told as the most-th.
func (p *plain) take(box, now, most int) []string {
	if box < 0 || box >= len(p.boxes) {
		return nil
	}
	var told []string
	for len(told) < most {
		i := -1
		for j, x := range p.boxes[box] {
			if x.due <= now && (i < 0 || x.due < p.boxes[box][i].due) {
				i = j
			}
		}
		if i < 0 {
			break
		}
		told = append(told, p.boxes[box][i].text)
		p.boxes[box] = slices.Delete(p.boxes[box], i, i+1)
	}
	return told
}

// without is the model behind what a box's owner took.
func (p *plain) without(box, now int) *plain {
	p.take(box, now, whole)
	return p
}

// told ranges over a Take up to the most-th message (from 1 on), and breaks off there.
func told(take iter.Seq[[]byte], most int) []string {
	var l []string
	for b := range take {
		l = append(l, string(b))
		if len(l) == most {
			break
		}
	}
	return l
}

// countsSame holds against the model what a net tells at once, without being changed by it.
func countsSame(t testing.TB, n *Net, p *plain) {
	t.Helper()
	if n.Stats() != p.stats || n.Used() != p.used() {
		t.Fatalf("Stats, Used: %+v, %d, not %+v, %d", n.Stats(), n.Used(), p.stats, p.used())
	}
	for r := range p.config.Receivers {
		if got, want := n.Waiting(r), len(p.boxes[r]); got != want {
			t.Fatalf("Waiting(%d): %d, not %d", r, got, want)
		}
	}
	for _, r := range []int{first, -1, p.config.Receivers, p.config.Receivers + 1, last} {
		if got := n.Waiting(r); got != 0 {
			t.Fatalf("Waiting(%d): %d", r, got)
		}
	}
}

// levelsSame holds each receiver's level against the model's group.
func levelsSame(t testing.TB, n *Net, p *plain) {
	t.Helper()
	for r := -1; r <= p.config.Receivers; r++ {
		for _, now := range edges {
			got, e := n.Level(r, now)
			if want, f := p.group.Level(r, now); got != want || e != f {
				t.Fatalf("Level(%d, %d): %d, %d, not %d, %d", r, now, got, e, want, f)
			}
		}
	}
}

// dues are the ticks at which something is due, and those about them, rising.
func (p *plain) dues() []int {
	ticks := []int{first, -1, 0, last}
	for _, box := range p.boxes {
		for _, x := range box {
			ticks = append(ticks, x.due-1, x.due, x.due+1)
		}
	}
	slices.Sort(ticks)
	return slices.Compact(ticks)
}

// takesSame empties both, tick by tick.
func takesSame(t testing.TB, n *Net, p *plain) {
	t.Helper()
	for _, now := range p.dues() {
		for r := -1; r <= p.config.Receivers; r++ {
			takenSame(t, n, p, r, now, whole)
		}
		takenUpSame(t, n, p, now, whole)
	}
}

func takenSame(t testing.TB, n *Net, p *plain, r, now, most int) {
	t.Helper()
	var want []string
	if r != p.sender() {
		want = p.take(r, now, most)
	}
	if got := told(n.Take(r, now), most); !slices.Equal(got, want) {
		t.Fatalf("Take(%d, %d) up to %d: %q, not %q", r, now, most, got, want)
	}
}

func takenUpSame(t testing.TB, n *Net, p *plain, now, most int) {
	t.Helper()
	if got, want := told(n.TakeUp(now), most), p.take(p.sender(), now, most); !slices.Equal(got, want) {
		t.Fatalf("TakeUp(%d) up to %d: %q, not %q", now, most, got, want)
	}
}

// holds is all that a net tells, and at the end all the messages, of a copy, which leaves the net as it is.
func holds(t testing.TB, n *Net, p *plain) {
	t.Helper()
	countsSame(t, n, p)
	levelsSame(t, n, p)
	c, q := n.Copy(), p.copy()
	takesSame(t, c, q)
	countsSame(t, c, q)
	countsSame(t, n, p)
}

// step is one call, done with both, whose answer is held against the model's.
type step func(t testing.TB, n *Net, p *plain)

func ask(r, level, now int) step {
	return func(t testing.TB, n *Net, p *plain) {
		t.Helper()
		if got, want := n.Ask(r, level, now), p.group.Ask(r, level, now); got != want {
			t.Fatalf("Ask(%d, %d, %d): %d, not %d", r, level, now, got, want)
		}
	}
}

func send(layer int, text string, now int) step {
	return func(t testing.TB, n *Net, p *plain) {
		t.Helper()
		got, e := n.Send(layer, []byte(text), now)
		if want, f := p.send(layer, text, now); got != want || e != f {
			t.Fatalf("Send(%d, %d bytes, %d): %d, %d, not %d, %d", layer, len(text), now, got, e, want, f)
		}
	}
}

func up(r int, text string, now int) step {
	return func(t testing.TB, n *Net, p *plain) {
		t.Helper()
		if got, want := n.Up(r, []byte(text), now), p.up(r, text, now); got != want {
			t.Fatalf("Up(%d, %d bytes, %d): %d, not %d", r, len(text), now, got, want)
		}
	}
}

func takeUpTo(r, now, most int) step {
	return func(t testing.TB, n *Net, p *plain) {
		t.Helper()
		takenSame(t, n, p, r, now, most)
	}
}

func take(r, now int) step { return takeUpTo(r, now, whole) }

func senderTakesUpTo(now, most int) step {
	return func(t testing.TB, n *Net, p *plain) {
		t.Helper()
		takenUpSame(t, n, p, now, most)
	}
}

func senderTakes(now int) step { return senderTakesUpTo(now, whole) }

// made is a new net.
func made(t testing.TB, c Config, fates ...Fate) (*Net, *plain) {
	t.Helper()
	n, e := New(c, fates)
	if e != api.OK || n == nil {
		t.Fatalf("New(%+v): %v, %d", c, n, e)
	}
	return n, newPlain(c, fates)
}

// do takes steps, and holds all that is told against the model behind each.
func do(t testing.TB, n *Net, p *plain, steps ...step) {
	t.Helper()
	for _, s := range steps {
		s(t, n, p)
		holds(t, n, p)
	}
}

// joined is a new net with a receiver for each of the levels, which it asked for at tick 0.
func joined(t testing.TB, c Config, fates []Fate, levels ...int) (*Net, *plain) {
	t.Helper()
	c.Receivers = len(levels)
	n, p := made(t, c, fates...)
	for r, level := range levels {
		ask(r, level, 0)(t, n, p)
	}
	holds(t, n, p)
	return n, p
}

func errnoIs(t testing.TB, what string, got, want api.Errno) {
	t.Helper()
	if got != want {
		t.Fatalf("%s: %d, not %d", what, got, want)
	}
}

func statsAre(t testing.TB, n *Net, want Stats, used int) {
	t.Helper()
	if n.Stats() != want || n.Used() != used {
		t.Fatalf("Stats, Used: %+v, %d, not %+v, %d", n.Stats(), n.Used(), want, used)
	}
}

// sent sends to so many.
func sent(t testing.TB, n *Net, layer int, text string, now, want int) {
	t.Helper()
	if got, e := n.Send(layer, []byte(text), now); got != want || e != api.OK {
		t.Fatalf("Send(%d, %q, %d): %d, %d, not %d", layer, text, now, got, e, want)
	}
}

// sentUp sends to the sender.
func sentUp(t testing.TB, n *Net, r int, text string, now int) {
	t.Helper()
	errnoIs(t, "Up", n.Up(r, []byte(text), now), api.OK)
}

func tells(t testing.TB, n *Net, r, now int, want ...string) {
	t.Helper()
	if got := told(n.Take(r, now), whole); !slices.Equal(got, want) {
		t.Fatalf("Take(%d, %d): %q, not %q", r, now, got, want)
	}
}

func tellsSender(t testing.TB, n *Net, now int, want ...string) {
	t.Helper()
	if got := told(n.TakeUp(now), whole); !slices.Equal(got, want) {
		t.Fatalf("TakeUp(%d): %q, not %q", now, got, want)
	}
}

// scrawl writes over a list, its spare room too.
func scrawl(b []byte) {
	b = b[:cap(b)]
	copy(b, bytes.Repeat([]byte{'#'}, len(b)))
}
