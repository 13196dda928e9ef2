package pipe

import (
	"bytes"
	"math"
	"slices"
	"strings"
	"testing"

	"terrace/api"
)

const end = 2 * api.MaxTick

// edges are the numbers that the chapter and the language make special.
var edges = []int{math.MinInt, math.MinInt + 1, -end - 1, -end, -api.MaxTick, -2, -1, 0, 1, 2, 3, api.MaxQueue - 1, api.MaxQueue, api.MaxQueue + 1, api.MaxTick - 1, api.MaxTick, api.MaxTick + 1, end - 1, end, end + 1, 2 * end, math.MaxInt - 1, math.MaxInt}

// parcel is a message of the model.
type parcel struct {
	due  int
	text string
}

// plain is what a pipe is held against: all that was put and is still there, in the order in which it was put.
type plain struct {
	room    int
	parcels []parcel
}

func (p *plain) copy() *plain { return &plain{p.room, slices.Clone(p.parcels)} }

func (p *plain) put(due int, text string) api.Errno {
	switch {
	case due < 0, due > end, len(text) > api.MaxPacket:
		return api.ErrRange
	case len(p.parcels) >= p.room:
		return api.ErrFull
	}
	p.parcels = append(p.parcels, parcel{due, text})
	return api.OK
}

// first is the place of the one that is told first: none ahead of it is due as early, and none behind it is due earlier.
func (p *plain) first() int {
	first := -1
	for i, x := range p.parcels {
		if first < 0 || x.due < p.parcels[first].due {
			first = i
		}
	}
	return first
}

// take is the loop over a Take that is broken off behind the message that is told as the most-th.
func (p *plain) take(now, most int) []string {
	var told []string
	for len(told) < most {
		i := p.first()
		if i < 0 || p.parcels[i].due > now {
			break
		}
		told = append(told, p.parcels[i].text)
		p.parcels = slices.Delete(p.parcels, i, i+1)
	}
	return told
}

func (p *plain) due(now int) int {
	n := 0
	for _, x := range p.parcels {
		if x.due <= now {
			n++
		}
	}
	return n
}

func (p *plain) clear() int {
	n := len(p.parcels)
	p.parcels = nil
	return n
}

// whole is the loop that is never broken off.
const whole = math.MaxInt

// ask ranges over a Take up to the most-th message (from 1 on), and breaks off there.
func ask(take func(func([]byte) bool), most int) []string {
	var told []string
	for b := range take {
		told = append(told, string(b))
		if len(told) == most {
			break
		}
	}
	return told
}

// countsSame holds against the model what a pipe tells at once, without being changed by it.
func countsSame(t testing.TB, p *Pipe, q *plain) {
	t.Helper()
	if p.Len() != len(q.parcels) || p.Room() != q.room-len(q.parcels) {
		t.Fatalf("Len, Room: %d, %d, not %d, %d", p.Len(), p.Room(), len(q.parcels), q.room-len(q.parcels))
	}
	due, b, e := p.Peek()
	i := q.first()
	if i < 0 {
		if due != 0 || len(b) != 0 || e != api.ErrNone {
			t.Fatalf("Peek of none: %d, %q, %d", due, b, e)
		}
		return
	}
	if want := q.parcels[i]; due != want.due || string(b) != want.text || e != api.OK {
		t.Fatalf("Peek: %d, %q, %d, not %d, %q", due, b, e, want.due, want.text)
	}
}

// duesSame holds Due against the model at the edges and about each message's tick.
func duesSame(t testing.TB, p *Pipe, q *plain) {
	t.Helper()
	times := slices.Clone(edges)
	for _, x := range q.parcels {
		times = append(times, x.due-1, x.due, x.due+1)
	}
	for _, now := range times {
		if got, want := p.Due(now), q.due(now); got != want {
			t.Fatalf("Due(%d): %d, not %d", now, got, want)
		}
	}
}

// holds is all that tells something, and at the end all the messages, of a copy, which leaves the pipe as it is.
func holds(t testing.TB, p *Pipe, q *plain) {
	t.Helper()
	countsSame(t, p, q)
	duesSame(t, p, q)
	c, d := p.Copy(), q.copy()
	if got, want := ask(c.Take(math.MaxInt), whole), d.take(math.MaxInt, whole); !slices.Equal(got, want) {
		t.Fatalf("all: %q, not %q", got, want)
	}
	countsSame(t, c, d)
	countsSame(t, p, q)
}

// step is one call.
type step struct {
	kind byte // put, take, clear, a take that is not ranged over
	tick int
	text string // of a put
	most int    // of a take: up to how many messages it is asked
}

func put(due int, text string) step { return step{'p', due, text, 0} }
func take(now int) step             { return step{'t', now, "", whole} }
func takeUpTo(now, most int) step   { return step{'t', now, "", most} }
func takeNotRanged(now int) step    { return step{'n', now, "", 0} }
func clearAll() step                { return step{'c', 0, "", 0} }

// do does a step with both, and holds what is told right then against the model.
func do(t testing.TB, p *Pipe, q *plain, s step) {
	t.Helper()
	switch s.kind {
	case 'p':
		got, want := p.Put(s.tick, []byte(s.text)), q.put(s.tick, s.text)
		if got != want {
			t.Fatalf("Put(%d, %d bytes): %d, not %d", s.tick, len(s.text), got, want)
		}
	case 't':
		got, want := ask(p.Take(s.tick), s.most), q.take(s.tick, s.most)
		if !slices.Equal(got, want) {
			t.Fatalf("Take(%d) up to %d: %q, not %q", s.tick, s.most, got, want)
		}
	case 'n':
		p.Take(s.tick)
	case 'c':
		got, want := p.Clear(), q.clear()
		if got != want {
			t.Fatalf("Clear: %d, not %d", got, want)
		}
	}
}

// made is a new pipe.
func made(t testing.TB, room int) (*Pipe, *plain) {
	t.Helper()
	p, e := New(room)
	if e != api.OK || p == nil {
		t.Fatalf("New(%d): %v, %d", room, p, e)
	}
	return p, &plain{room: room}
}

// run takes steps from a new pipe on, and holds all that is told against the model behind each.
func run(t testing.TB, room int, steps ...step) (*Pipe, *plain) {
	t.Helper()
	p, q := made(t, room)
	holds(t, p, q)
	for _, s := range steps {
		do(t, p, q, s)
		holds(t, p, q)
	}
	return p, q
}

// text tells the message number i apart from all others.
func text(i int) string { return strings.Repeat("x", i%5) + string([]byte{byte(i), byte(i >> 8)}) }

// filled has as many messages as its room, less some, due at the ticks that at tells.
func filled(t testing.TB, room, less int, at func(int) int) (*Pipe, *plain) {
	t.Helper()
	p, q := made(t, room)
	for i := range room - less {
		do(t, p, q, put(at(i), text(i)))
		countsSame(t, p, q)
	}
	holds(t, p, q)
	return p, q
}

func errnoIs(t testing.TB, what string, got, want api.Errno) {
	t.Helper()
	if got != want {
		t.Fatalf("%s: %d, not %d", what, got, want)
	}
}

func tells(t testing.TB, p *Pipe, now int, want ...string) {
	t.Helper()
	if got := ask(p.Take(now), whole); !slices.Equal(got, want) {
		t.Fatalf("Take(%d): %q, not %q", now, got, want)
	}
}

// scrawl writes over a list, its spare room too.
func scrawl(b []byte) {
	b = b[:cap(b)]
	copy(b, bytes.Repeat([]byte{'#'}, len(b)))
}
