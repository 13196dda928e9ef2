package pipe

import (
	"math"
	"math/rand/v2"
	"strings"
	"testing"

	"terrace/api"
)

// P11.1: New at each edge of the rooms.
func TestNew(t *testing.T) {
	for _, c := range []struct {
		room int
		want api.Errno
	}{
		{math.MinInt, api.ErrRange}, {math.MinInt + 1, api.ErrRange}, {-1, api.ErrRange}, {0, api.ErrRange}, {1, api.OK}, {2, api.OK},
		{api.MaxQueue - 1, api.OK}, {api.MaxQueue, api.OK}, {api.MaxQueue + 1, api.ErrRange}, {1<<32 + 1, api.ErrRange}, {math.MaxInt, api.ErrRange},
	} {
		p, e := New(c.room)
		errnoIs(t, "New", e, c.want)
		if e != api.OK {
			if p != nil {
				t.Fatalf("New(%d): a pipe beside an error", c.room)
			}
			continue
		}
		holds(t, p, &plain{room: c.room})
		if p.Len() != 0 || p.Room() != c.room {
			t.Fatalf("New(%d): Len %d, Room %d", c.room, p.Len(), p.Room())
		}
	}
}

// P11.1: two new pipes have nothing to do with each other.
func TestNewIsNew(t *testing.T) {
	p, _ := made(t, 3)
	v, q := made(t, 3)
	errnoIs(t, "Put", p.Put(1, []byte("a")), api.OK)
	holds(t, v, q)
}

// P11.1: each room holds so many messages and no more.
func TestRooms(t *testing.T) {
	for room := 1; room <= api.MaxQueue; room++ {
		p, q := filled(t, room, 0, func(i int) int { return i * 7 % 10 })
		if p.Len() != room || p.Room() != 0 {
			t.Fatalf("New(%d), filled: Len %d, Room %d", room, p.Len(), p.Room())
		}
		errnoIs(t, "Put into a full pipe", p.Put(3, []byte("more")), api.ErrFull)
		holds(t, p, q)
	}
}

// P11.1: Put at each edge of due and of the bytes' number, into an empty pipe, one with room for one more, and a full one.
func TestPut(t *testing.T) {
	dues := []int{math.MinInt, math.MinInt + 1, -1, 0, 1, api.MaxTick, end - 1, end, end + 1, math.MaxInt}
	sizes := []int{0, 1, api.MaxPacket - 1, api.MaxPacket, api.MaxPacket + 1, 1 << 16}
	for _, room := range []int{1, 2, 5, api.MaxQueue} {
		for _, less := range []int{0, 1, room} {
			for _, due := range dues {
				for _, size := range sizes {
					want := api.OK
					if less == 0 {
						want = api.ErrFull
					}
					if due < 0 || due > end || size > api.MaxPacket {
						want = api.ErrRange
					}
					p, q := filled(t, room, less, func(i int) int { return i })
					b := strings.Repeat("z", size)
					errnoIs(t, "Put", p.Put(due, []byte(b)), want)
					q.put(due, b)
					holds(t, p, q)
				}
			}
		}
	}
}

// P11.1: where several errors apply, the one that is named first.
func TestErrorsInOrder(t *testing.T) {
	long := make([]byte, api.MaxPacket+1)
	p, q := filled(t, 4, 0, func(i int) int { return i })
	errnoIs(t, "due, full", p.Put(-1, nil), api.ErrRange)
	errnoIs(t, "due, full", p.Put(end+1, nil), api.ErrRange)
	errnoIs(t, "bytes, full", p.Put(0, long), api.ErrRange)
	errnoIs(t, "due, bytes, full", p.Put(-1, long), api.ErrRange)
	errnoIs(t, "full", p.Put(0, nil), api.ErrFull)
	errnoIs(t, "full", p.Put(end, long[1:]), api.ErrFull)
	holds(t, p, q)
}

// P11.1: nil and no bytes are the same message, and one all the same.
func TestNoBytes(t *testing.T) {
	for _, b := range [][]byte{nil, {}, make([]byte, 0, 9), []byte("abc")[:0]} {
		p, _ := made(t, 2)
		errnoIs(t, "Put", p.Put(4, b), api.OK)
		errnoIs(t, "Put", p.Put(3, nil), api.OK)
		errnoIs(t, "Put into a full pipe", p.Put(3, b), api.ErrFull)
		if due, told, e := p.Peek(); due != 3 || len(told) != 0 || e != api.OK || p.Len() != 2 {
			t.Fatalf("Peek: %d, %q, %d", due, told, e)
		}
		tells(t, p, 3, "")
		tells(t, p, 4, "")
		tells(t, p, 5)
	}
}

// P11.1: what is told is all of the bytes that were put, of any length and any values.
func TestAllBytes(t *testing.T) {
	r := rand.New(rand.NewPCG(11, 1))
	for size := range api.MaxPacket + 1 {
		b := make([]byte, size)
		for i := range b {
			b[i] = byte(r.Uint32())
		}
		p, _ := made(t, 1)
		errnoIs(t, "Put", p.Put(size, b), api.OK)
		if _, told, _ := p.Peek(); string(told) != string(b) {
			t.Fatalf("Peek: %q, not %q", told, b)
		}
		tells(t, p, size, string(b))
	}
}

// P11.1: a message is the last one due at its tick, whatever is there by then.
func TestLastOfItsTick(t *testing.T) {
	ticks := []int{0, 0, 1, 5, 5, 5, 6, 100, end - 1, end, end}
	for _, due := range []int{0, 1, 2, 5, 6, 7, 100, 101, end - 1, end} {
		p, q := made(t, 20)
		for i, tick := range ticks {
			do(t, p, q, put(tick, text(i)))
		}
		do(t, p, q, put(due, "last"))
		holds(t, p, q)
		told := ask(p.Take(due), whole)
		if len(told) == 0 || told[len(told)-1] != "last" || p.Due(due) != 0 {
			t.Fatalf("Take(%d): %q", due, told)
		}
	}
}

// P11.1: room comes back as messages are taken, one for each.
func TestRoomComesBack(t *testing.T) {
	for _, room := range []int{1, 2, 3, 7} {
		p, q := filled(t, room, 0, func(i int) int { return 2 * i })
		for i := range 5 * room {
			do(t, p, q, put(9, "none"))
			do(t, p, q, takeUpTo(end, 1))
			holds(t, p, q)
			do(t, p, q, put(i*i%11, text(i)))
			holds(t, p, q)
		}
	}
}

// P11.1, P11.2: every row of a few calls, on a pipe that is soon full.
func TestEveryShortRow(t *testing.T) {
	calls := []step{clearAll()}
	for _, tick := range []int{-1, 0, 1, 2, end + 1} {
		calls = append(calls, put(tick, "?"), take(tick), takeUpTo(tick, 1), takeNotRanged(tick))
	}
	var each func(p *Pipe, q *plain, done, left int)
	each = func(p *Pipe, q *plain, done, left int) {
		for i, s := range calls {
			if s.kind == 'p' {
				s.text = text(done)
			}
			c, d := p.Copy(), q.copy()
			do(t, c, d, s)
			countsSame(t, c, d)
			if left == 1 {
				do(t, c, d, take(end))
			} else {
				each(c, d, done*len(calls)+i+1, left-1)
			}
		}
		countsSame(t, p, q)
	}
	for _, room := range []int{1, 2} {
		p, q := made(t, room)
		each(p, q, 0, 4)
	}
}

// chance is a call whose ticks meet often enough, and sometimes lie at the edges.
func chance(r *rand.Rand, ticks int) step {
	tick := r.IntN(ticks)
	if r.IntN(20) == 0 {
		tick = edges[r.IntN(len(edges))]
	}
	switch r.IntN(20) {
	case 0, 1, 2:
		return takeUpTo(tick/4, 1+r.IntN(5))
	case 3:
		return take(tick / 8)
	case 4:
		return takeNotRanged(tick)
	case 5:
		if r.IntN(8) == 0 {
			return clearAll()
		}
	}
	size := r.IntN(20)
	if r.IntN(30) == 0 {
		size = api.MaxPacket - 1 + r.IntN(3)
	}
	b := make([]byte, size)
	for i := range b {
		b[i] = byte(r.Uint32())
	}
	return put(tick, string(b))
}

// P11.1, P11.2: long rows of any calls.
func TestLongRows(t *testing.T) {
	for seed := range uint64(60) {
		r := rand.New(rand.NewPCG(11, seed))
		p, q := made(t, 1+r.IntN(api.MaxQueue))
		ticks := 1 + r.IntN(60)
		for range 400 {
			do(t, p, q, chance(r, ticks))
			countsSame(t, p, q)
			if r.IntN(20) == 0 {
				holds(t, p, q)
			}
			if r.IntN(50) == 0 {
				v, w := p, q.copy()
				p = p.Copy()
				defer func() { holds(t, v, w) }()
			}
		}
	}
}

// FuzzSteps takes each 11 bytes as a call: P1 at any arguments, and the model behind each.
func FuzzSteps(f *testing.F) {
	f.Add(4, []byte{})
	f.Add(2, []byte("p\x05\x00\x00\x00\x00\x00\x00\x00\x01ap\x03\x00\x00\x00\x00\x00\x00\x00\x01bt\x04\x00\x00\x00\x00\x00\x00\x00\x02c"))
	f.Add(1, []byte("p\x00\x00\x00\x00\x00\x02\x00\x00\xa0zp\x01\x00\x00\x00\x00\x02\x00\x00\xa1zt\xff\xff\xff\xff\xff\xff\xff\x7f\x00z"))
	f.Add(api.MaxQueue, []byte("p\xff\xff\xff\xff\xff\xff\xff\xff\x00zn\x00\x00\x00\x00\x00\x00\x00\x80\x00zc\x00\x00\x00\x00\x00\x00\x00\x80\x00z"))
	f.Add(math.MinInt, []byte("p"))
	f.Fuzz(func(t *testing.T, room int, b []byte) {
		p, e := New(room)
		if (e == api.OK) != (room >= 1 && room <= api.MaxQueue) || (p != nil) != (e == api.OK) {
			t.Fatalf("New(%d): %v, %d", room, p, e)
		}
		if e != api.OK {
			return
		}
		q := &plain{room: room}
		for ; len(b) >= 11; b = b[11:] {
			s := step{kind: "ptnc"[int(b[0])%4], tick: number(b[1:9]), most: 1 + int(b[9])}
			if s.kind == 'p' {
				s.text = strings.Repeat(string(b[10:11]), 2*int(b[9]))
			}
			do(t, p, q, s)
			holds(t, p, q)
			p = p.Copy()
		}
	})
}

func number(b []byte) int {
	n := uint64(0)
	for i, x := range b {
		n |= uint64(x) << (8 * i)
	}
	return int(n)
}
