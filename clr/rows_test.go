package clr

import (
	"math/rand/v2"
	"testing"

	"terrace/api"
	"terrace/fix"
)

// P18.2: a copy of an empty one and of a full one, with a CLR and without: it tells the same.
func TestCopyTellsTheSame(t *testing.T) {
	for _, limit := range []int{1, 20, 1048576} {
		b, p := made(t, limit)
		holds(t, b.Copy(), p)
		for r := range 64 {
			take(t, b, p, Told{63 - r, 100, fix.F(50 + r)}, 100)
			holds(t, b.Copy(), p)
		}
		leave(t, b, p, 63)
		holds(t, b.Copy(), p)
		holds(t, b.Copy().Copy(), p)
		clrIs(t, b.Copy(), -1)
	}
}

// P18.2: a copy has the limit of the one that it was made of.
func TestCopyHasTheLimit(t *testing.T) {
	for _, limit := range []int{1, 2, 20, 1048576} {
		b, p := taken(t, limit, Told{1, 5, 10})
		c, q := b.Copy(), p.copy()
		errnoIs(t, "Take at the limit", take(t, c, q, Told{2, 10, 11}, 10+limit), api.OK)
		errnoIs(t, "Take behind it", take(t, c, q, Told{2, 10, 11}, 11+limit), api.ErrStale)
		is(t, "Pass at the limit", pass(t, c, q, 5+limit), false)
		is(t, "Pass behind it", pass(t, c, q, 6+limit), true)
		holds(t, b, p)
	}
}

// P18.2: neither a copy nor what it was made of is changed by what is done to the other one.
func TestCopiesGoTheirOwnWays(t *testing.T) {
	deeds := []func(b *Book, p *plain){
		func(b *Book, p *plain) { take(t, b, p, Told{3, 20, 1}, 20) },
		func(b *Book, p *plain) { take(t, b, p, Told{0, 20, 99}, 20) },
		func(b *Book, p *plain) { take(t, b, p, Told{63, 20, 99}, 20) },
		func(b *Book, p *plain) { take(t, b, p, Told{30, 20, 4}, 20) },
		func(b *Book, p *plain) { take(t, b, p, Told{2, 20, 30}, 20) },
		func(b *Book, p *plain) { leave(t, b, p, 1) },
		func(b *Book, p *plain) { leave(t, b, p, 2) },
		func(b *Book, p *plain) { leave(t, b, p, 3) },
		func(b *Book, p *plain) { pass(t, b, p, last) },
	}
	for _, x := range deeds {
		for _, y := range deeds {
			for _, z := range deeds {
				b, p := taken(t, 20, Told{1, 5, 10}, Told{2, 6, 8}, Told{3, 7, 12})
				x(b, p)
				c, q := b.Copy(), p.copy()
				y(b, p)
				holds(t, c, q)
				z(c, q)
				holds(t, b, p)
				x(b, p)
				y(c, q)
				holds(t, b, p)
				holds(t, c, q)
			}
		}
	}
}

// seen is how often something of a kind became of the calls, so that no kind is missed.
type seen struct{ fine, refused, stale, left, passed, moved int }

func (s *seen) add(b *Book, was int, e api.Errno) {
	switch e {
	case api.OK:
		s.fine++
	case api.ErrRange:
		s.refused++
	default:
		s.stale++
	}
	if clr, ok := b.CLR(); ok && was >= 0 && clr.From != was {
		s.moved++
	}
}

// step makes one of any calls, most of them right.
func step(t testing.TB, x *rand.Rand, b *Book, p *plain, now *int, receivers int, s *seen) {
	t.Helper()
	*now += x.IntN(4) - 1
	*now = max(*now, 0)
	was := -1
	if clr, ok := b.CLR(); ok {
		was = clr.From
	}
	r := Told{x.IntN(receivers), *now - x.IntN(p.limit+3) + 1, fix.F(x.IntN(6))}
	if x.IntN(4) == 0 {
		r.Rate = rates[x.IntN(len(rates))]
	}
	switch x.IntN(12) {
	case 0:
		s.left += map[bool]int{true: 1}[leave(t, b, p, x.IntN(receivers))]
	case 1:
		s.passed += map[bool]int{true: 1}[pass(t, b, p, *now+x.IntN(p.limit))]
	case 2:
		r.From = edges[x.IntN(len(edges))]
		s.add(b, was, take(t, b, p, r, *now))
	case 3:
		leave(t, b, p, edges[x.IntN(len(edges))])
		of(t, b, p, edges[x.IntN(len(edges))])
	default:
		s.add(b, was, take(t, b, p, r, *now))
	}
}

// P18.1, P18.2: many calls in an open order.
func TestLongRows(t *testing.T) {
	all := seen{}
	for seed := range uint64(60) {
		x := rand.New(rand.NewPCG(18, seed))
		b, p := made(t, 1+x.IntN(12))
		now, receivers := 20, []int{3, 8, 64}[seed%3]
		for range 300 {
			step(t, x, b, p, &now, receivers, &all)
			if x.IntN(50) == 0 {
				b, p = b.Copy(), p.copy()
			}
		}
	}
	if min(all.fine, all.refused, all.stale, all.left, all.passed, all.moved) < 150 {
		t.Fatalf("too few of a kind: %+v", all)
	}
}

// P18.1, P18.2: every short row of calls.
func TestShortRows(t *testing.T) {
	calls := []func(b *Book, p *plain){
		func(b *Book, p *plain) { take(t, b, p, Told{1, 10, 5}, 10) },
		func(b *Book, p *plain) { take(t, b, p, Told{1, 11, 7}, 12) },
		func(b *Book, p *plain) { take(t, b, p, Told{2, 10, 5}, 12) },
		func(b *Book, p *plain) { take(t, b, p, Told{2, 12, 4}, 12) },
		func(b *Book, p *plain) { take(t, b, p, Told{3, 12, 6}, 13) },
		func(b *Book, p *plain) { leave(t, b, p, 1) },
		func(b *Book, p *plain) { leave(t, b, p, 2) },
		func(b *Book, p *plain) { pass(t, b, p, 13) },
		func(b *Book, p *plain) { pass(t, b, p, 14) },
	}
	const length = 4
	rows := 1
	for range length {
		rows *= len(calls)
	}
	for row := range rows {
		b, p := made(t, 2)
		for rest, n := row, 0; n < length; rest, n = rest/len(calls), n+1 {
			calls[rest%len(calls)](b, p)
		}
	}
}

// P1: every row of edges, of a book that is empty and of one that isn't.
func TestAnyArguments(t *testing.T) {
	for i, x := range edges {
		if b, e := New(x); (b != nil) != (e == api.OK) || (e == api.OK) != (x >= 1 && x <= 1048576) {
			t.Fatalf("New(%d): %d", x, e)
		}
		for j, y := range edges {
			for k, z := range edges {
				r := Told{x, y, rates[(i+j+k)%len(rates)]}
				b, p := made(t, []int{1, 20, 1048576}[(i+k)%3])
				if got, want := b.Take(r, z), p.take(r, z); got != want {
					t.Fatalf("Take(%+v, %d): %d, not %d", r, z, got, want)
				}
				if got, want := b.Pass(y), p.pass(y); got != want {
					t.Fatalf("Pass(%d): %t, not %t", y, got, want)
				}
				if got, want := b.Take(Told{63, 0, 9}, 1), p.take(Told{63, 0, 9}, 1); got != want {
					t.Fatalf("Take: %d, not %d", got, want)
				}
				if got, want := b.Leave(x), p.leave(x); got != want {
					t.Fatalf("Leave(%d): %t, not %t", x, got, want)
				}
				of(t, b, p, z)
				if got, want := b.Pass(z), p.pass(z); got != want {
					t.Fatalf("Pass(%d): %t, not %t", z, got, want)
				}
			}
		}
	}
}

// FuzzCalls takes each five bytes as a call, and holds all that is told against the model behind each.
func FuzzCalls(f *testing.F) {
	f.Add([]byte{}, 0, 1)
	f.Add([]byte("\x00\x01\x05\x0a\x05\x00\x02\x06\x08\x06\x00\x02\x07\x14\x07\x00\x03\x08\x13\x08"), last, 20)
	f.Add([]byte("\x00\x01\x05\x0a\x05\x02\x00\x00\x00\x08\x01\x01\x00\x00\x00\x05\x01\x00\x00\x00"), api.MaxTick, 2)
	f.Add([]byte("\x03\x01\x05\x0a\x05\x04\x01\x05\x0a\x05\x06\x00\x00\x00\x00\x07\x00\x00\x00\x00"), first, 1<<20)
	f.Fuzz(func(t *testing.T, bytes []byte, any, limit int) {
		b, e := New(limit)
		if (e == api.OK) != (limit >= 1 && limit <= 1048576) || (b == nil) != (e == api.ErrRange) {
			t.Fatalf("New(%d): %d", limit, e)
		}
		if b == nil {
			return
		}
		p := &plain{limit: limit}
		for ; len(bytes) >= 5; bytes = bytes[5:] {
			r, now := Told{int(bytes[1]) % 66, int(bytes[2]), fix.F(bytes[3])}, int(bytes[4])
			switch bytes[0] % 9 {
			case 0, 8:
				take(t, b, p, r, now)
			case 1:
				leave(t, b, p, r.From)
			case 2:
				pass(t, b, p, now)
			case 3:
				r.Tick = any
				take(t, b, p, r, any)
			case 4:
				r.From = any
				take(t, b, p, r, now)
			case 5:
				b, p = b.Copy(), p.copy()
			case 6:
				pass(t, b, p, any)
			default:
				leave(t, b, p, any)
				of(t, b, p, any)
			}
		}
	})
}
