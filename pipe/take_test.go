package pipe

import (
	"math"
	"slices"
	"testing"

	"terrace/api"
)

// P11.2: the chapter's example.
func TestExample(t *testing.T) {
	p, _ := made(t, 3)
	errnoIs(t, "Put", p.Put(5, []byte("a")), api.OK)
	errnoIs(t, "Put", p.Put(3, []byte("b")), api.OK)
	errnoIs(t, "Put", p.Put(5, []byte("c")), api.OK)
	tells(t, p, 4, "b")
	tells(t, p, 9, "a", "c")
	if p.Len() != 0 || p.Room() != 3 {
		t.Fatalf("Len, Room: %d, %d", p.Len(), p.Room())
	}
}

// P11.2: those due earlier first however they were put, of one tick in the order in which they were put.
func TestOrder(t *testing.T) {
	var rows [][]int
	for row := range 4 * 4 * 4 * 4 * 4 {
		rows = append(rows, []int{row % 4, row / 4 % 4, row / 16 % 4, row / 64 % 4, row / 256})
	}
	rows = append(rows, []int{end, 0, end, 0, api.MaxTick, end - 1, 1, end, 0})
	for _, dues := range rows {
		p, q := made(t, len(dues))
		for i, due := range dues {
			do(t, p, q, put(due, text(i)))
		}
		places := make([]int, len(dues))
		for i := range places {
			places[i] = i
		}
		slices.SortStableFunc(places, func(a, b int) int { return dues[a] - dues[b] })
		var want []string
		for _, place := range places {
			want = append(want, text(place))
		}
		tells(t, p, end, want...)
	}
}

// P11.2: many of one tick.
func TestOneTick(t *testing.T) {
	p, q := filled(t, api.MaxQueue, 0, func(int) int { return 7 })
	do(t, p, q, take(6))
	holds(t, p, q)
	var want []string
	for i := range api.MaxQueue {
		want = append(want, text(i))
	}
	tells(t, p, 7, want...)
}

// takeTimes are below the first one due of 10, 20, 20 and 30, at it, between two, at the last one, past it, and at the ends.
var takeTimes = []int{math.MinInt, -1, 0, 9, 10, 11, 19, 20, 21, 29, 30, 31, end, end + 1, math.MaxInt}

func fourMessages(t testing.TB) (*Pipe, *plain) {
	t.Helper()
	return run(t, 5, put(30, "d"), put(20, "b"), put(10, "a"), put(20, "c"))
}

// P11.2: what is due at each time, written out; Due tells how many they are, and takes none.
func TestTimes(t *testing.T) {
	for _, now := range takeTimes {
		var want []string
		for _, x := range []parcel{{10, "a"}, {20, "b"}, {20, "c"}, {30, "d"}} {
			if x.due <= now {
				want = append(want, x.text)
			}
		}
		p, _ := fourMessages(t)
		for range 2 {
			if got := p.Due(now); got != len(want) || p.Len() != 4 {
				t.Fatalf("Due(%d): %d, not %d; %d left", now, got, len(want), p.Len())
			}
		}
		tells(t, p, now, want...)
		if p.Len() != 4-len(want) || p.Room() != 1+len(want) || p.Due(now) != 0 {
			t.Fatalf("behind Take(%d): Len %d, Room %d, Due %d", now, p.Len(), p.Room(), p.Due(now))
		}
		tells(t, p, now)
	}
}

// P11.2: a time that is earlier than one that was asked tells what was put since, and no more.
func TestTakeEarlier(t *testing.T) {
	run(t, 5, put(10, "a"), take(50), put(20, "b"), put(5, "c"), put(60, "d"), take(9), take(19), take(20), take(-1), take(60))
}

// P11.2: at the ends of the ticks.
func TestEnds(t *testing.T) {
	p, q := run(t, 4, put(end, "d"), put(0, "a"), put(end-1, "c"), put(0, "b"))
	for _, now := range []int{math.MinInt, -1} {
		tells(t, p, now)
	}
	holds(t, p, q)
	tells(t, p, 0, "a", "b")
	tells(t, p, end-2)
	tells(t, p, end-1, "c")
	tells(t, p, end-1)
	tells(t, p, math.MaxInt, "d")
}

// P11.2: left off behind each number of messages: those that were told are there no more, the others are, in their order.
func TestLeftOff(t *testing.T) {
	const messages = 30
	for most := 1; most <= messages+1; most++ {
		for _, again := range []int{1, 3, whole} {
			p, q := filled(t, messages, 0, func(i int) int { return i * i % 40 })
			for _, s := range []step{takeUpTo(25, most), takeUpTo(20, again), takeUpTo(25, again), takeUpTo(100, most), take(100)} {
				do(t, p, q, s)
				holds(t, p, q)
			}
		}
	}
}

// P11.2: behind a break nothing is told any more, and each is told once.
func TestNoYieldBehindABreak(t *testing.T) {
	for stops := 1; stops <= 4; stops++ {
		p, _ := fourMessages(t)
		calls := 0
		p.Take(100)(func([]byte) bool {
			calls++
			return calls < stops
		})
		if calls != stops || p.Len() != 4-stops {
			t.Fatalf("%d calls, not %d; %d left", calls, stops, p.Len())
		}
	}
}

// P11.2: not asked at all: none goes.
func TestNotAsked(t *testing.T) {
	for _, now := range takeTimes {
		p, q := fourMessages(t)
		p.Take(now)
		holds(t, p, q)
		do(t, p, q, take(now))
		holds(t, p, q)
	}
}

// P11.2 and what is ranged over: it is told as it is when the loop runs, each time anew.
func TestRangedOverLater(t *testing.T) {
	p, _ := made(t, 5)
	take := p.Take(10)
	errnoIs(t, "Put", p.Put(10, []byte("b")), api.OK)
	errnoIs(t, "Put", p.Put(11, []byte("c")), api.OK)
	errnoIs(t, "Put", p.Put(4, []byte("a")), api.OK)
	for _, want := range [][]string{{"a"}, {"b"}, nil, nil} {
		if told := ask(take, 1); !slices.Equal(told, want) {
			t.Fatalf("Take: %q, not %q", told, want)
		}
	}
	errnoIs(t, "Put", p.Put(10, []byte("d")), api.OK)
	if told := ask(take, whole); !slices.Equal(told, []string{"d"}) {
		t.Fatalf("Take: %q", told)
	}
	errnoIs(t, "Put", p.Put(10, []byte("e")), api.OK)
	p.Clear()
	if told := ask(take, whole); told != nil {
		t.Fatalf("Take behind Clear: %q", told)
	}
}

// P11.2: however the loop ends, what was told is gone, and what was not is there.
func TestLoopThatPanics(t *testing.T) {
	p, _ := fourMessages(t)
	func() {
		defer func() {
			if recover() == nil {
				t.Error("the loop's own panic is lost")
			}
		}()
		for b := range p.Take(100) {
			if string(b) == "b" {
				panic("the loop's own")
			}
		}
	}()
	tells(t, p, 100, "c", "d")
}

// P11.2: Peek of an empty pipe, of one message and of many, and that it takes none.
func TestPeek(t *testing.T) {
	p, _ := made(t, 5)
	peekIs := func(due int, text string, e api.Errno) {
		t.Helper()
		count := p.Len()
		for range 2 {
			if d, b, err := p.Peek(); d != due || string(b) != text || err != e || p.Len() != count {
				t.Fatalf("Peek: %d, %q, %d, not %d, %q, %d; %d left", d, b, err, due, text, e, p.Len())
			}
		}
	}
	peekIs(0, "", api.ErrNone)
	p.Put(end, []byte("d"))
	peekIs(end, "d", api.OK)
	p.Put(9, []byte("b"))
	peekIs(9, "b", api.OK)
	p.Put(9, []byte("c"))
	peekIs(9, "b", api.OK)
	p.Put(0, []byte("a"))
	peekIs(0, "a", api.OK)
	p.Put(-1, []byte("none"))
	peekIs(0, "a", api.OK)
	ask(p.Take(9), 2)
	peekIs(9, "c", api.OK)
	ask(p.Take(9), 1)
	peekIs(end, "d", api.OK)
	ask(p.Take(end), whole)
	peekIs(0, "", api.ErrNone)
	p.Put(7, nil)
	peekIs(7, "", api.OK)
	p.Clear()
	peekIs(0, "", api.ErrNone)
}

// P11.2: a copy tells the same as the first one would, and what is done to either does not show in the other.
func TestCopy(t *testing.T) {
	changes := [][]step{
		nil, {put(15, "e")}, {put(0, "f")}, {put(end, "g")}, {take(10)}, {takeUpTo(100, 1)}, {takeUpTo(100, 3)}, {take(end)}, {takeNotRanged(end)}, {clearAll()},
		{clearAll(), put(1, "h"), put(0, "i")}, {take(10), put(3, "j"), put(40, "k"), put(20, "l")}, {put(20, "m"), put(20, "n")},
	}
	for _, one := range changes {
		for _, other := range changes {
			for _, copyFirst := range []bool{false, true} {
				p, q := fourMessages(t)
				c, d := p.Copy(), q.copy()
				holds(t, c, d)
				if copyFirst {
					p, c, q, d = c, p, d, q
				}
				for _, s := range one {
					do(t, p, q, s)
					holds(t, c, d)
				}
				for _, s := range other {
					do(t, c, d, s)
					holds(t, p, q)
				}
				holds(t, p, q)
				holds(t, c, d)
			}
		}
	}
}

// P11.2: copies of an empty pipe, of a full one, and behind a part of the messages.
func TestCopyOfAny(t *testing.T) {
	for _, room := range []int{1, 2, 9, api.MaxQueue} {
		p, q := made(t, room)
		holds(t, p.Copy(), q)
		p, q = filled(t, room, 0, func(i int) int { return i % 5 })
		c := p.Copy()
		errnoIs(t, "Put into a copy of a full pipe", c.Put(1, nil), api.ErrFull)
		holds(t, c, q)
		do(t, p, q, takeUpTo(end, max(1, room/2)))
		c, d := p.Copy(), q.copy()
		for i := range room {
			do(t, c, d, put(i, text(i)))
			holds(t, p, q)
		}
		holds(t, c, d)
	}
}

// P11.2: a copy's loop is its own, and the first one's too.
func TestCopyAndTake(t *testing.T) {
	p, _ := fourMessages(t)
	take := p.Take(100)
	c := p.Copy()
	if told := ask(take, whole); len(told) != 4 || p.Len() != 0 || c.Len() != 4 {
		t.Fatalf("Take: %q; %d and %d left", told, p.Len(), c.Len())
	}
	tells(t, c, 100, "a", "b", "c", "d")
}

// P11.2: Clear of an empty, a partly filled and a full pipe.
func TestClear(t *testing.T) {
	for _, room := range []int{1, 2, 9, api.MaxQueue} {
		for _, less := range []int{0, 1, room / 2, room} {
			p, q := filled(t, room, less, func(i int) int { return i % 5 })
			if n := p.Clear(); n != room-less || p.Len() != 0 || p.Room() != room {
				t.Fatalf("Clear: %d, not %d; Len %d, Room %d", n, room-less, p.Len(), p.Room())
			}
			q.clear()
			holds(t, p, q)
			tells(t, p, end)
			do(t, p, q, clearAll())
			for i := range room + 1 {
				do(t, p, q, put((i+3)%5, text(i+1000)))
			}
			holds(t, p, q)
			do(t, p, q, takeUpTo(end, 1))
			do(t, p, q, clearAll())
			holds(t, p, q)
		}
	}
}

// Memory: a change of the bytes that were handed in does not show, and they and their spare room are not changed.
func TestPutKeepsNothing(t *testing.T) {
	room := []byte("abcdefgh")
	p, _ := made(t, 4)
	for _, size := range []int{3, 0, 8, 3} {
		errnoIs(t, "Put", p.Put(size, room[:size]), api.OK)
	}
	if _, b, _ := p.Peek(); len(b) != 0 {
		t.Fatalf("Peek: %q", b)
	}
	if string(room) != "abcdefgh" {
		t.Fatalf("Put writes: %q", room)
	}
	scrawl(room)
	c := p.Copy()
	tells(t, p, 9, "", "abc", "abc", "abcdefgh")
	tells(t, c, 9, "", "abc", "abc", "abcdefgh")
	if string(room) != "########" {
		t.Fatalf("Take writes: %q", room)
	}
}

// Memory: a change of what Peek told does not show in the pipe, in its copies, or in what is told elsewhere.
func TestPeekIsNew(t *testing.T) {
	p, _ := run(t, 3, put(1, "abc"), put(1, "def"))
	c := p.Copy()
	_, one, _ := p.Peek()
	_, other, _ := p.Peek()
	scrawl(one)
	if string(other) != "abc" {
		t.Fatalf("two of Peek's share memory: %q", other)
	}
	scrawl(other)
	tells(t, c, 1, "abc", "def")
	_, one, _ = p.Peek()
	for b := range p.Take(1) {
		scrawl(b)
	}
	if string(one) != "abc" {
		t.Fatalf("Peek and Take share memory: %q", one)
	}
}

// Memory: a change of what Take told does not show in the pipe, in its copies, or in what is told behind it.
func TestTakeIsNew(t *testing.T) {
	p, _ := run(t, 5, put(1, "abc"), put(1, ""), put(1, "def"), put(2, "ghi"))
	early, late := p.Copy(), p.Copy()
	var kept [][]byte
	for b := range p.Take(1) {
		for _, k := range kept {
			scrawl(k)
		}
		if want := []string{"abc", "", "def"}[len(kept)]; string(b) != want {
			t.Fatalf("Take: %q, not %q", b, want)
		}
		kept = append(kept, b)
		scrawl(b)
	}
	errnoIs(t, "Put", p.Put(2, []byte("jkl")), api.OK)
	for _, k := range kept {
		if slices.ContainsFunc(k, func(x byte) bool { return x != '#' }) {
			t.Fatalf("what was told is written again: %q", k)
		}
		scrawl(append(k, "###"...))
	}
	tells(t, p, 2, "ghi", "jkl")
	tells(t, early, 2, "abc", "", "def", "ghi")
	for b := range late.Take(2) {
		scrawl(b)
	}
	tells(t, late.Copy(), end)
}

// What was taken or cleared is not kept in the list's memory either.
func TestNothingStays(t *testing.T) {
	for _, s := range []step{clearAll(), take(end), takeUpTo(end, 5)} {
		p, q := filled(t, 20, 0, func(i int) int { return i * 3 % 7 })
		list := p.messages[:cap(p.messages)]
		do(t, p, q, s)
		for _, m := range list[p.Len():] {
			if m.bytes != nil || m.due != 0 {
				t.Fatalf("%c keeps %d, %q", s.kind, m.due, m.bytes)
			}
		}
	}
}
