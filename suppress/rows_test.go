package suppress

import (
	"math/rand/v2"
	"testing"

	"terrace/api"
	"terrace/fix"
)

// counts is how many rounds were started, and what became of them, as the answers of the calls say it.
type counts struct{ started, fired, hushed, followed int }

// step makes one of any calls, most of them right, and counts what it answers.
func step(t testing.TB, x *rand.Rand, r *Round, p *plain, c *counts) {
	t.Helper()
	now := x.IntN(60)
	if x.IntN(30) == 0 {
		now = edges[x.IntN(len(edges))]
	}
	switch x.IntN(8) {
	case 0, 1:
		_, ran := r.Due()
		if start(t, r, p, r.Number()-1+x.IntN(4), now, x.IntN(30), rates[x.IntN(len(rates))]) == api.OK {
			c.started++
			c.followed += map[bool]int{true: 1}[ran]
		}
	case 2, 3, 4:
		if echo(t, r, p, r.Number()-x.IntN(3)/2, rates[x.IntN(len(rates))]) {
			c.hushed++
		}
	case 5:
		if fire(t, r, p, now) {
			c.fired++
		}
	default:
		urge(t, r, p, now)
	}
}

// P17.2, P17.3: each round that was started fires once, or is ended by an echo or by the next Start, behind many calls in an open order.
func TestEachEndsOnce(t *testing.T) {
	all := counts{}
	for seed := range uint64(100) {
		x := rand.New(rand.NewPCG(173, seed))
		r, p := made(t)
		c := counts{}
		for range 500 {
			step(t, x, r, p, &c)
			open := 0
			if _, ok := r.Due(); ok {
				open = 1
			}
			if c.started != c.fired+c.hushed+c.followed+open {
				t.Fatalf("seed %d: %+v, %d open", seed, c, open)
			}
		}
		became := counts{started: len(p.ever)}
		for _, l := range p.ever {
			became.fired += map[bool]int{true: 1}[l.became == fired]
			became.hushed += map[bool]int{true: 1}[l.became == hushed]
			became.followed += map[bool]int{true: 1}[l.became == followed]
		}
		if c != became {
			t.Fatalf("seed %d: %+v, not %+v", seed, c, became)
		}
		all = counts{all.started + c.started, all.fired + c.fired, all.hushed + c.hushed, all.followed + c.followed}
	}
	if min(all.fired, all.hushed, all.followed) < 500 {
		t.Fatalf("too few of a kind: %+v", all)
	}
}

// P17.2, P17.3: every short row of calls.
func TestShortRows(t *testing.T) {
	calls := []func(testing.TB, *Round, *plain){
		func(t testing.TB, r *Round, p *plain) { start(t, r, p, p.number()+1, 10, 5, 8) },
		func(t testing.TB, r *Round, p *plain) { start(t, r, p, p.number(), 1, 1, 20) },
		func(t testing.TB, r *Round, p *plain) { start(t, r, p, p.number()+2, 20, 0, 0) },
		func(t testing.TB, r *Round, p *plain) { echo(t, r, p, p.number(), 9) },
		func(t testing.TB, r *Round, p *plain) { echo(t, r, p, p.number(), 10) },
		func(t testing.TB, r *Round, p *plain) { fire(t, r, p, 14) },
		func(t testing.TB, r *Round, p *plain) { fire(t, r, p, 15) },
		func(t testing.TB, r *Round, p *plain) { urge(t, r, p, 14) },
		func(t testing.TB, r *Round, p *plain) { urge(t, r, p, -1) },
	}
	const length = 5
	rows := 1
	for range length {
		rows *= len(calls)
	}
	for row := range rows {
		r, p := made(t)
		for rest, n := row, 0; n < length; rest, n = rest/len(calls), n+1 {
			calls[rest%len(calls)](t, r, p)
		}
	}
}

// receiver is one of two that hear each other's rates: its round, what it was started with, and how often it fired and was hushed.
type receiver struct {
	r             *Round
	own           fix.F
	fired, hushed int
}

// receiverOf starts round 3 at tick 0.
func receiverOf(t testing.TB, wait int, own fix.F) *receiver {
	t.Helper()
	r := New()
	errnoIs(t, "Start", r.Start(3, 0, wait, own), api.OK)
	return &receiver{r: r, own: own}
}

// fire is whether it does, at that tick.
func (v *receiver) fire(now int) bool {
	if !v.r.Fire(now) {
		return false
	}
	v.fired++
	return true
}

// hear is told the rate of the other one.
func (v *receiver) hear(rate fix.F) {
	if v.r.Echo(3, rate) {
		v.hushed++
	}
}

// endedOnce: each one fired or was hushed, once, and at least one of them fired.
func endedOnce(t testing.TB, a, b *receiver) {
	t.Helper()
	if a.fired+b.fired == 0 {
		t.Fatalf("own rates %d and %d: none fired", a.own, b.own)
	}
	for _, v := range []*receiver{a, b} {
		if v.fired+v.hushed != 1 {
			t.Fatalf("own rates %d and %d: %d times fired, %d times hushed", a.own, b.own, v.fired, v.hushed)
		}
		tells(t, v.r, 0, false, 3, v.own)
	}
}

// P17.3: of two receivers of one round that hear each other at once at least one fires, whoever is asked first.
func TestTwoThatHearAtOnce(t *testing.T) {
	for _, x := range rates {
		for _, y := range rates {
			for pair := range 16 {
				a, b := receiverOf(t, pair/4, x), receiverOf(t, pair%4, y)
				for now := range 5 {
					if a.fire(now) {
						b.hear(a.own)
					}
					if b.fire(now) {
						a.hear(b.own)
					}
				}
				endedOnce(t, a, b)
				ahead := pair/4 <= pair%4
				if ahead && a.fired != 1 || !ahead && b.fired != 1 {
					t.Fatalf("waits %d and %d: the earlier one didn't fire", pair/4, pair%4)
				}
				if ahead && plainLow(x, y) != (b.hushed == 1) {
					t.Fatalf("rates %d and %d: the second one was %d times hushed", x, y, b.hushed)
				}
			}
		}
	}
}

// P17.3: of two receivers of one round that hear each other some ticks later at least one fires, and both do if they hear too late.
func TestTwoThatHearLater(t *testing.T) {
	for pair := range 36 {
		for later := range 8 {
			for _, x := range []fix.F{0, 7, 8, 9, 10} {
				a, b := receiverOf(t, pair/6, x), receiverOf(t, pair%6, 8)
				toA, toB := -1, -1
				for now := range 20 {
					if toA == now {
						a.hear(b.own)
					}
					if toB == now {
						b.hear(a.own)
					}
					if a.fire(now) {
						toB = now + later + 1
					}
					if b.fire(now) {
						toA = now + later + 1
					}
				}
				endedOnce(t, a, b)
				if later >= 5 && a.fired+b.fired != 2 {
					t.Fatalf("heard %d ticks later: only one fired", later+1)
				}
			}
		}
	}
}

// P17.3: the waits of two receivers by their shares: the one that drew the lesser share fires, and the other one is hushed or fires, too.
func TestTwoThatDraw(t *testing.T) {
	x := rand.New(rand.NewPCG(173, 9))
	for range 2000 {
		s, u := 1+fix.F(x.Uint64N(one)), 1+fix.F(x.Uint64N(one))
		most, n := x.IntN(50), 2+x.IntN(100)
		a := receiverOf(t, waits(t, s, most, n), rates[x.IntN(len(rates))])
		b := receiverOf(t, waits(t, u, most, n), rates[x.IntN(len(rates))])
		for now := range most + 1 {
			if a.fire(now) {
				b.hear(a.own)
			}
			if b.fire(now) {
				a.hear(b.own)
			}
		}
		endedOnce(t, a, b)
		if s < u && a.fired == 0 {
			t.Fatalf("shares %d and %d: the lesser one didn't fire", s, u)
		}
	}
}

// P17.3: telling changes nothing, however often it is done.
func TestTellingChangesNothing(t *testing.T) {
	r, p := started(t, 77)
	for range 5 {
		tells(t, r, 120, true, 5, 77)
	}
	is(t, "Fire", fire(t, r, p, 120), true)
	for range 5 {
		tells(t, r, 0, false, 5, 77)
	}
}

// P1: every row of edges, of a round that is new, of one that runs and of one that is idle.
func TestAnyArguments(t *testing.T) {
	for i, a := range edges {
		for j, b := range edges {
			for k, c := range edges {
				own := rates[(i+j+k)%len(rates)]
				r, p := made(t)
				start(t, r, p, a, b, c, own)
				urge(t, r, p, c)
				fire(t, r, p, a)
				echo(t, r, p, b, own)
				r, p = started(t, own)
				start(t, r, p, a, b, c, own/2)
				echo(t, r, p, c, own)
				urge(t, r, p, a)
				fire(t, r, p, b)
			}
		}
	}
}

// FuzzCalls takes each four bytes as a call, and holds all that is told against the model behind each.
func FuzzCalls(f *testing.F) {
	f.Add([]byte{}, 0, uint64(0))
	f.Add([]byte("\x00\x01\x0a\x05\x01\x01\x00\x00\x02\x00\x0e\x00\x02\x00\x0f\x00"), last, uint64(8*one))
	f.Add([]byte("\x00\x01\x0a\x05\x03\x00\x03\x00\x04\x00\x03\x00\x00\x01\x0a\x05\x05\x00\x00\x00"), api.MaxTick, uint64(highest))
	f.Add([]byte("\x06\x05\x00\x00\x07\x05\x00\x00\x08\x00\x00\x00\x09\x10\x10\x00"), first, uint64(one/16))
	f.Fuzz(func(t *testing.T, b []byte, any int, rate uint64) {
		r, p := made(t)
		for ; len(b) >= 4; b = b[4:] {
			now, wait := int(b[2]), int(b[3])
			switch b[0] % 11 {
			case 0, 1:
				start(t, r, p, r.Number()+int(b[1])%3, now, wait, fix.F(rate)>>(b[1]/4))
			case 2:
				fire(t, r, p, now)
			case 3:
				urge(t, r, p, now)
			case 4:
				echo(t, r, p, r.Number()-int(b[1])%2, fix.F(rate)>>(b[2]/4)+fix.F(b[3]))
			case 5:
				start(t, r, p, any, now, wait, fix.F(rate))
			case 6:
				start(t, r, p, r.Number()+1, any, wait, fix.F(rate))
			case 7:
				start(t, r, p, r.Number()+1, now, any, fix.F(rate))
			case 8:
				fire(t, r, p, any)
				urge(t, r, p, any)
			case 9:
				waits(t, fix.F(rate)>>(b[1]/4), now<<(wait%14), int(b[1])<<(wait/16))
			default:
				waits(t, fix.F(rate), any, now)
				waits(t, fix.F(rate), now, any)
			}
		}
	})
}
