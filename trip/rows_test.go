package trip

import (
	"math/rand/v2"
	"slices"
	"testing"

	"terrace/api"
	"terrace/fix"
)

// between holds the guess to lie from the least to the greatest sample, but for the seven bits that an eighth may round.
func between(t testing.TB, x *Trip, p *plain) {
	t.Helper()
	if x.Get() < fix.One {
		t.Fatalf("samples %v: the guess %d is below One", p.ever, x.Get())
	}
	if len(p.ever) == 0 {
		return
	}
	least, most := fix.Of(uint32(slices.Min(p.ever))), fix.Of(uint32(slices.Max(p.ever)))
	if x.Get()+7 < least || x.Get() > most+7 {
		t.Fatalf("samples %v: the guess %d is not from %d to %d", p.ever, x.Get(), least, most)
	}
}

// P16.2: behind many samples, of any lengths, the guess lies between the least and the greatest of them.
func TestBetween(t *testing.T) {
	for seed := range uint64(200) {
		r := rand.New(rand.NewPCG(16, seed))
		x, p := made(t, guesses[r.IntN(len(guesses))])
		least := 1 + r.IntN(most)>>r.IntN(20)
		wide := 1 + r.IntN(most+1-least)>>r.IntN(20)
		for range 200 {
			lasts(t, x, p, least+r.IntN(wide))
			between(t, x, p)
		}
		holds(t, x, p)
	}
}

// P16.2: from one end to the other one and back, for as long as the guess moves.
func TestThereAndBack(t *testing.T) {
	for _, c := range [][2]int{{1, 2}, {1, most}, {2, 3}, {7, 8}, {most - 1, most}} {
		x, p := measured(t, c[0])
		for range 3 {
			lasts(t, x, p, many(400, c[1])...)
			tells(t, x, fix.Of(uint32(c[1])), c[1], x.Known())
			lasts(t, x, p, many(400, c[0])...)
			tells(t, x, fix.Of(uint32(c[0]))+7, c[0]+1, x.Known())
			between(t, x, p)
		}
		holds(t, x, p)
	}
}

// P16.2: of samples that all last as long, the guess is that.
func TestAllAsLong(t *testing.T) {
	for _, long := range []int{1, 2, 3, 5, 7, 8, 9, 100, 65535, 65537, most - 1, most} {
		for _, told := range guesses {
			x, p := made(t, told)
			for known := range 60 {
				lasts(t, x, p, long)
				tells(t, x, fix.Of(uint32(long)), long, known+1)
			}
			between(t, x, p)
		}
	}
}

// P16.1, P16.2: every short row of samples, those that are refused among them.
func TestShortRows(t *testing.T) {
	long := []int{-1, 0, 1, 2, 3, 9, most, most + 1}
	for row := range 8 * 8 * 8 * 8 {
		x, p := made(t, guesses[row%len(guesses)])
		for rest := row; rest > 0; rest /= 8 {
			sample(t, x, p, most+long[rest%8], most-3, 3)
			between(t, x, p)
		}
		holds(t, x, p)
	}
}

// step does any one call, of numbers that are mostly right.
func step(t testing.TB, r *rand.Rand, x *Trip, p *plain) {
	t.Helper()
	switch r.IntN(8) {
	case 0:
		sample(t, x, p, edges[r.IntN(len(edges))], edges[r.IntN(len(edges))], edges[r.IntN(len(edges))])
	case 1:
		now := r.IntN(api.MaxTick + 1)
		sample(t, x, p, now, now-edges[r.IntN(len(edges))], r.IntN(3))
	default:
		echo, hold := r.IntN(api.MaxTick-3*most), r.IntN(most)>>r.IntN(21)
		sample(t, x, p, echo+hold+r.IntN(most+1)>>r.IntN(22), echo, hold)
	}
}

// P16.1, P16.2: long rows of any calls, copies on the way, which stay as they were.
func TestLongRows(t *testing.T) {
	for seed := range uint64(60) {
		r := rand.New(rand.NewPCG(61, seed))
		x, p := made(t, fix.F(r.Uint64()>>r.IntN(64)))
		for range 200 {
			step(t, r, x, p)
			between(t, x, p)
			holds(t, x, p)
			if r.IntN(40) == 0 {
				v, q := x, p.copy()
				x = x.Copy()
				defer func() { holds(t, v, q) }()
			}
		}
	}
}

// P1: every row of edges, of a new trip and of one that had samples.
func TestAnyArguments(t *testing.T) {
	x, p := made(t, highest)
	y, q := measured(t, 3, 5)
	for _, a := range edges {
		for _, b := range edges {
			for _, c := range edges {
				sample(t, x, p, a, b, c)
				sample(t, y, q, c, a, b)
				v, w := made(t, fix.F(uint64(a)))
				sample(t, v, w, b, a, c)
				holds(t, v, w)
			}
		}
		holds(t, x, p)
		holds(t, y, q)
	}
}

// P16.1: a copy tells the same; what is done to either doesn't show in the other one, nor in a further copy.
func TestCopy(t *testing.T) {
	for _, long := range [][]int{nil, {1}, {8, 16}, {3, 5, 1, 7, most, 2}, many(50, 9)} {
		for _, told := range guesses {
			x, p := made(t, told)
			lasts(t, x, p, long...)
			a, q := x.Copy(), p.copy()
			b, r := x.Copy(), p.copy()
			if a == x || b == x || a == b || a == nil {
				t.Fatal("Copy: the same one")
			}
			tells(t, a, x.Get(), x.Ticks(), x.Known())
			lasts(t, a, q, 77)
			holds(t, a, q)
			holds(t, b, r)
			holds(t, x, p)
			lasts(t, x, p, 4, most)
			holds(t, a, q)
			holds(t, b, r)
			holds(t, x, p)
			errnoIs(t, b, 0, 1, 0, api.ErrRange)
			lasts(t, b.Copy(), r.copy(), 5)
			holds(t, b, r)
			holds(t, a, q)
			holds(t, x, p)
		}
	}
}

// P16.1: a copy goes on as the other one would: a first sample of a new one's copy is the guess, a further one isn't.
func TestCopyGoesOn(t *testing.T) {
	x, p := made(t, fix.Of(50))
	c, q := x.Copy(), p.copy()
	tells(t, c, fix.Of(50), 50, 0)
	lasts(t, c, q, 8)
	tells(t, c, fix.Of(8), 8, 1)
	tells(t, x, fix.Of(50), 50, 0)
	d, r := c.Copy(), q.copy()
	lasts(t, d, r, 16)
	tells(t, d, fix.Of(9), 9, 2)
	tells(t, c, fix.Of(8), 8, 1)
	holds(t, d, r)
}

// P16.1: telling changes nothing, however often it is done.
func TestTellingChangesNothing(t *testing.T) {
	x, p := measured(t, 3, 5, 1)
	for range 5 {
		tells(t, x, 12750684160, 3, 3)
		x.Copy()
	}
	holds(t, x, p)
}

// FuzzCalls takes each six bytes as a sample, and holds all that is told against the model behind each.
func FuzzCalls(f *testing.F) {
	f.Add([]byte{}, uint64(0), 0)
	f.Add([]byte("\x00\x00\x08\x00\x00\x00\x00\x00\x10\x00\x00\x00"), uint64(one+1), last)
	f.Add([]byte("\x01\x0f\xff\x00\x00\x05\x02\x00\x00\x01\x00\x00"), uint64(highest), first)
	f.Add([]byte("\x03\x10\x00\x00\x00\x00\x04\x00\x00\x01\x00\x00\x05\x10\x00\x00\x00\x01"), uint64(1<<52), 1<<40)
	f.Fuzz(func(t *testing.T, b []byte, told uint64, any int) {
		x, p := made(t, fix.F(told))
		for ; len(b) >= 6; b = b[6:] {
			long := int(b[0])>>4<<16 | int(b[1])<<8 | int(b[2])
			echo, hold := int(b[3])<<8|int(b[4]), int(b[5])
			switch b[0] % 8 {
			case 0:
				sample(t, x, p, any, echo, hold)
			case 1:
				sample(t, x, p, long, any, hold)
			case 2:
				sample(t, x, p, long, echo, any)
			case 3:
				sample(t, x, p, echo+long-hold, echo, hold)
			default:
				sample(t, x, p, echo+hold+long, echo, hold)
			}
			between(t, x, p)
			holds(t, x, p)
			x = x.Copy()
		}
		holds(t, x, p)
	})
}
