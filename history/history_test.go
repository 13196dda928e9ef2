package history

import (
	"math/rand/v2"
	"slices"
	"testing"

	"terrace/api"
	"terrace/fix"
)

// P14.1, P14.2: all that a new history tells.
func TestNew(t *testing.T) {
	h, p := made(t)
	holds(t, h, p)
	if h.Open() != 0 || len(h.Closed()) != 0 {
		t.Fatalf("New: open %d, closed %v", h.Open(), h.Closed())
	}
	fIs(t, "Mean", h.Mean(), fix.Max)
	fIs(t, "Discounted", h.Discounted(), fix.Max)
	fIs(t, "Rate", h.Rate(), 0)
}

// P14.1: two new histories have nothing to do with each other.
func TestNewIsNew(t *testing.T) {
	h, p := run(t, 3, 4, 5)
	v, q := made(t)
	grow(t, v, q, 9)
	loss(t, v, q)
	holds(t, h, p)
	holds(t, v, q)
}

// P14.1: Packet at each edge, behind open intervals at and about the greatest one.
func TestPacketEdges(t *testing.T) {
	for _, open := range []int{0, 1, 1 << 16, most - 1<<16 - 1, most - 1<<16, most - 1<<16 + 1, most - 2, most - 1, most} {
		for _, n := range edges {
			for _, closed := range [][]int{nil, {7}, {1, 2, 3, 4, 5, 6, 7, 8, 9}} {
				h, p := run(t, append(slices.Clone(closed), open)...)
				want := api.OK
				if n < 0 || n > 65536 || open+n > 1048576 {
					want = api.ErrRange
				}
				errnoIs(t, "Packet", packet(t, h, p, n), want)
				holds(t, h, p)
			}
		}
	}
}

// P14.1: what Packet takes and refuses, written out.
func TestPacketNamed(t *testing.T) {
	h := New()
	for _, c := range []struct {
		n    int
		want api.Errno
		open int
	}{
		{first, api.ErrRange, 0}, {-1, api.ErrRange, 0}, {1<<16 + 1, api.ErrRange, 0}, {last, api.ErrRange, 0},
		{0, api.OK, 0}, {1, api.OK, 1}, {1<<16 - 1, api.OK, 1 << 16}, {1 << 16, api.OK, 1 << 17},
		{-1, api.ErrRange, 1 << 17}, {1<<16 + 1, api.ErrRange, 1 << 17},
	} {
		errnoIs(t, "Packet", h.Packet(c.n), c.want)
		if h.Open() != c.open {
			t.Fatalf("Open behind Packet(%d): %d, not %d", c.n, h.Open(), c.open)
		}
	}
	for range 14 {
		errnoIs(t, "Packet(2^16)", h.Packet(1<<16), api.OK)
	}
	for _, n := range []int{1, 2, 1<<16 - 1, 1 << 16, last, first, -1} {
		errnoIs(t, "Packet at 2^20", h.Packet(n), api.ErrRange)
	}
	errnoIs(t, "Packet(0) at 2^20", h.Packet(0), api.OK)
	if h.Open() != 1<<20 || h.Mean() != fix.Max {
		t.Fatalf("Open: %d, Mean: %d", h.Open(), h.Mean())
	}
	if !h.Loss() || h.Open() != 0 || h.Packet(1<<16) != api.OK || h.Open() != 1<<16 {
		t.Fatalf("Loss at 2^20: Open %d", h.Open())
	}
}

// P14.1: the first Loss ever, and those up to the one by which the second interval is gone too.
func TestLoss(t *testing.T) {
	h, p := made(t)
	for i := 1; i <= 12; i++ {
		grow(t, h, p, 100*i)
		if got := h.Copy().Loss(); got != (i == 1) {
			t.Fatalf("Loss, the %d. one: %v", i, got)
		}
		loss(t, h, p)
		holds(t, h, p)
		if h.Open() != 0 {
			t.Fatalf("Open behind Loss: %d", h.Open())
		}
		switch i {
		case 1:
			closedIs(t, h, 100)
		case 2:
			closedIs(t, h, 200, 100)
		case 8:
			closedIs(t, h, 800, 700, 600, 500, 400, 300, 200, 100)
		case 9:
			closedIs(t, h, 900, 800, 700, 600, 500, 400, 300, 200)
		case 10:
			closedIs(t, h, 1000, 900, 800, 700, 600, 500, 400, 300)
		}
	}
}

// P14.1: Loss with open intervals of nothing and of the most, at each number of closed ones.
func TestLossAtTheEnds(t *testing.T) {
	for _, row := range [][]int{{0}, {most}, {0, most}, {most, 0}, {1, most - 1, 0}} {
		h, p := made(t)
		for i := range 20 {
			grow(t, h, p, row[i%len(row)])
			holds(t, h, p)
			loss(t, h, p)
			holds(t, h, p)
			if got := h.Closed()[0]; got != row[i%len(row)] {
				t.Fatalf("%v: the newest one: %d", row, got)
			}
		}
	}
	h := New()
	if !h.Loss() || h.Loss() || h.Loss() {
		t.Fatal("Loss: of three the first one alone is the first one ever")
	}
	closedIs(t, h, 0, 0, 0)
}

// P14.1: Start at each edge, by each number of closed intervals, with and without an open one.
func TestStartEdges(t *testing.T) {
	for count := range 11 {
		for _, open := range []int{0, 5, most} {
			for _, n := range edges {
				h, p := made(t)
				for i := range count {
					grow(t, h, p, 10*i)
					loss(t, h, p)
				}
				grow(t, h, p, open)
				v, q := h.Copy(), p.copy()
				want := count == 1 && n >= 1 && n <= 1048576
				if got := h.Start(n); got != want {
					t.Fatalf("%d closed: Start(%d): %v", count, n, got)
				}
				if want {
					closedIs(t, h, n)
				}
				p.start(n)
				holds(t, h, p)
				holds(t, v, q)
			}
		}
	}
}

// P14.1: Start again and again while there is just one interval, and none behind the second one.
func TestStartTwice(t *testing.T) {
	h, p := made(t)
	start(t, h, p, 4)
	holds(t, h, p)
	grow(t, h, p, 7)
	start(t, h, p, 4)
	holds(t, h, p)
	loss(t, h, p)
	for _, n := range []int{40, 41, 1, most, 0, 42, most + 1, 42} {
		start(t, h, p, n)
		holds(t, h, p)
	}
	closedIs(t, h, 42)
	grow(t, h, p, 3)
	start(t, h, p, 50)
	holds(t, h, p)
	loss(t, h, p)
	closedIs(t, h, 3, 50)
	start(t, h, p, 60)
	holds(t, h, p)
	closedIs(t, h, 3, 50)
	if h.Loss() {
		t.Fatal("Loss behind Start: the first one ever")
	}
}

// P14.1: the interval that Start laid is closed as any, and gone behind eight others.
func TestStartedIsGone(t *testing.T) {
	h, p := run(t, 0, 0)
	start(t, h, p, 1000)
	for i := range 9 {
		if i < 8 != slices.Contains(h.Closed(), 1000) {
			t.Fatalf("Closed behind %d more: %v", i, h.Closed())
		}
		grow(t, h, p, i)
		loss(t, h, p)
		holds(t, h, p)
	}
}

// P14.1 and the rule of memory: nothing that is done to what Closed told shows, its spare room neither.
func TestClosedIsNewMemory(t *testing.T) {
	for count := range 12 {
		h, p := made(t)
		for i := range count {
			grow(t, h, p, i+1)
			loss(t, h, p)
		}
		one, other := h.Closed(), h.Closed()
		want := slices.Clone(one)
		one = append(one[:cap(one)], 77)
		for i := range one {
			one[i] = -5
		}
		if !slices.Equal(other, want) {
			t.Fatalf("two answers are one: %v", other)
		}
		holds(t, h, p)
		grow(t, h, p, 9)
		loss(t, h, p)
		if !slices.Equal(other, want) {
			t.Fatalf("Closed has changed behind Loss: %v", other)
		}
		holds(t, h, p)
	}
}

// P14.1: a copy tells the same, and each goes its own way, at each number of closed intervals.
func TestCopy(t *testing.T) {
	for count := range 11 {
		h, p := made(t)
		for i := range count {
			grow(t, h, p, 3*i+1)
			loss(t, h, p)
		}
		grow(t, h, p, 20)
		for _, do := range []func(*History, *plain){
			func(h *History, p *plain) { packet(t, h, p, 6) },
			func(h *History, p *plain) { loss(t, h, p) },
			func(h *History, p *plain) { start(t, h, p, 8) },
			func(h *History, p *plain) { loss(t, h, p); packet(t, h, p, 2); loss(t, h, p) },
		} {
			a, b := h.Copy(), h.Copy()
			if a == nil || a == h || a == b {
				t.Fatal("Copy: not another one")
			}
			q, r := p.copy(), p.copy()
			holds(t, a, q)
			do(a, q)
			holds(t, a, q)
			holds(t, b, r)
			holds(t, h, p)
			do(b, r)
			holds(t, a, q)
			holds(t, b, r)
			holds(t, h, p)
		}
		a, q := h.Copy(), p.copy()
		loss(t, h, p)
		start(t, h, p, 99)
		holds(t, h, p)
		holds(t, a, q)
		holds(t, a.Copy(), q)
	}
}

// P14.1, P14.2: long rows of any calls, copies on the way, which stay as they were.
func TestLongRows(t *testing.T) {
	for seed := range uint64(60) {
		r := rand.New(rand.NewPCG(14, seed))
		h, p := made(t)
		for range 250 {
			switch r.IntN(8) {
			case 0:
				loss(t, h, p)
			case 1:
				start(t, h, p, r.IntN(most+2)>>r.IntN(21))
			case 2:
				packet(t, h, p, edges[r.IntN(len(edges))])
			case 3:
				start(t, h, p, edges[r.IntN(len(edges))])
			case 4:
				packet(t, h, p, r.IntN(1<<16+2))
			default:
				packet(t, h, p, r.IntN(1<<16+2)>>r.IntN(17))
			}
			holds(t, h, p)
			if r.IntN(40) == 0 {
				v, q := h, p.copy()
				h = h.Copy()
				defer func() { holds(t, v, q) }()
			}
		}
	}
}

// P1: every pair of edges in every call that takes a number.
func TestAnyArguments(t *testing.T) {
	for _, a := range edges {
		for _, b := range edges {
			h, p := made(t)
			packet(t, h, p, a)
			start(t, h, p, b)
			loss(t, h, p)
			start(t, h, p, b)
			packet(t, h, p, b)
			start(t, h, p, a)
			holds(t, h, p)
			loss(t, h, p)
			start(t, h, p, a)
			packet(t, h, p, a)
			packet(t, h, p, b)
			holds(t, h, p)
		}
	}
}

// FuzzCalls takes each four bytes as a call and its number, and holds all that is told against the model behind each.
func FuzzCalls(f *testing.F) {
	f.Add([]byte{}, 0)
	f.Add([]byte("\x00\x00\x00\x0a\x01\x00\x00\x00\x00\x00\x00\x04\x00\x00\x00\x14"), last)
	f.Add([]byte("\x01\x00\x00\x00\x02\x10\x00\x00\x00\x01\x00\x00\x00\x00\xff\xff"), first)
	f.Add([]byte("\x03\x00\x00\x00\x01\x00\x00\x00\x04\x00\x00\x00"), 1<<20)
	f.Fuzz(func(t *testing.T, b []byte, any int) {
		h, p := made(t)
		for ; len(b) >= 4; b = b[4:] {
			n := int(b[1])<<16 | int(b[2])<<8 | int(b[3])
			switch b[0] % 5 {
			case 0:
				packet(t, h, p, n)
			case 1:
				loss(t, h, p)
			case 2:
				start(t, h, p, n)
			case 3:
				packet(t, h, p, any)
			case 4:
				start(t, h, p, any)
			}
			holds(t, h, p)
			h = h.Copy()
		}
		holds(t, h, p)
	})
}
