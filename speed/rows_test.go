package speed

import (
	"math/rand/v2"
	"testing"

	"terrace/api"
	"terrace/fix"
)

// P19.1: a copy tells the same, behind New and behind calls of each kind.
func TestCopyTellsTheSame(t *testing.T) {
	for _, floor := range floors {
		for _, first := range []fix.F{floor, floor.Add(1), highest} {
			s, p := made(t, floor, first)
			holds(t, s.Copy(), p)
			errnoIs(t, "Held", held(t, s, p, highest, 10, 5), api.OK)
			holds(t, s.Copy(), p)
			free(t, s, p, highest, true)
			holds(t, s.Copy(), p)
			left(t, s, p)
			holds(t, s.Copy(), p)
			holds(t, s.Copy().Copy(), p)
		}
	}
}

// P19.1: neither a copy nor what it was made of is changed by what is done to the other one.
func TestCopiesGoTheirOwnWays(t *testing.T) {
	deeds := []func(s *Speed, p *plain){
		func(s *Speed, p *plain) { held(t, s, p, 20*one, 10, 5) },
		func(s *Speed, p *plain) { held(t, s, p, 5*one, 320, 1) },
		func(s *Speed, p *plain) { held(t, s, p, 0, 1, 1) },
		func(s *Speed, p *plain) { held(t, s, p, 5*one, 0, 1) },
		func(s *Speed, p *plain) { free(t, s, p, 7*one, true) },
		func(s *Speed, p *plain) { free(t, s, p, 3*one, true) },
		func(s *Speed, p *plain) { free(t, s, p, 3*one, false) },
		func(s *Speed, p *plain) { left(t, s, p) },
	}
	for _, x := range deeds {
		for _, y := range deeds {
			for _, z := range deeds {
				s, p := made(t, 2*one, 8*one)
				x(s, p)
				c, q := s.Copy(), p.copy()
				y(s, p)
				holds(t, c, q)
				z(c, q)
				holds(t, s, p)
				x(s, p)
				y(c, q)
				holds(t, s, p)
				holds(t, c, q)
			}
		}
	}
}

// seen is how often something of a kind became of the calls, so that no kind is missed.
type seen struct{ refused, limited, stepped, doubled, reported, stayed, halved, floored, full int }

// add counts what became of a rate by a call that was fine.
func (n *seen) add(s *Speed, count *int) {
	switch s.Rate() {
	case s.Floor():
		n.floored++
	case highest:
		n.full++
	default:
		*count++
	}
}

// some is any rate: anywhere, by its size in bits, or one of the edges, or one beside what the speed has.
func some(x *rand.Rand, s *Speed) fix.F {
	switch x.IntN(4) {
	case 0:
		return rates[x.IntN(len(rates))]
	case 1:
		return fix.F(x.Uint64() >> x.IntN(64))
	case 2:
		return s.Rate().Add(fix.F(x.IntN(5))).Sub(2)
	default:
		return s.Rate().Half(x.IntN(3)).Add(fix.F(x.Uint64() >> (20 + x.IntN(44))))
	}
}

// stepHeld makes a call of Held, most of them right.
func stepHeld(t testing.TB, x *rand.Rand, s *Speed, p *plain, n *seen) {
	t.Helper()
	limit, size, rtt := some(x, s), 1+x.IntN(320), 1+x.IntN(1<<x.IntN(21))
	if x.IntN(4) == 0 {
		size = edges[x.IntN(len(edges))]
	}
	if x.IntN(4) == 0 {
		rtt = edges[x.IntN(len(edges))]
	}
	if held(t, s, p, limit, size, rtt) != api.OK {
		n.refused++
		return
	}
	if s.Rate() == limit {
		n.add(s, &n.limited)
	} else {
		n.add(s, &n.stepped)
	}
}

// step makes one of any calls.
func step(t testing.TB, x *rand.Rand, s *Speed, p *plain, n *seen) {
	t.Helper()
	switch x.IntN(8) {
	case 0, 1, 2, 3:
		stepHeld(t, x, s, p, n)
	case 4, 5:
		least := some(x, s)
		doubled := least > s.Rate()
		free(t, s, p, least, true)
		if doubled {
			n.add(s, &n.doubled)
		} else {
			n.add(s, &n.reported)
		}
	case 6:
		free(t, s, p, some(x, s), false)
		n.add(s, &n.stayed)
	default:
		left(t, s, p)
		n.add(s, &n.halved)
	}
}

// P19.1, P19.2: many calls in an open order.
func TestLongRows(t *testing.T) {
	all := seen{}
	for seed := range uint64(100) {
		x := rand.New(rand.NewPCG(19, seed))
		floor := floors[x.IntN(4)]
		if seed%4 == 0 {
			floor = max(1, fix.F(x.Uint64()>>x.IntN(64)))
		}
		if seed%4 == 1 {
			floor = 1<<62 + fix.F(x.Uint64()>>1) // from here it is often that a double, or a step more, is above all
		}
		s, p := made(t, floor, floor.Add(fix.F(x.Uint64()>>x.IntN(64))))
		for range 400 {
			step(t, x, s, p, &all)
			if x.IntN(50) == 0 {
				s, p = s.Copy(), p.copy()
			}
		}
	}
	if min(all.refused, all.limited, all.stepped, all.doubled, all.reported, all.stayed, all.halved, all.floored, all.full) < 150 {
		t.Fatalf("too few of a kind: %+v", all)
	}
}

// P19.1, P19.2: every short row of calls.
func TestShortRows(t *testing.T) {
	calls := []func(s *Speed, p *plain){
		func(s *Speed, p *plain) { held(t, s, p, highest, 10, 5) },
		func(s *Speed, p *plain) { held(t, s, p, 9*one, 10, 7) },
		func(s *Speed, p *plain) { held(t, s, p, 3*one+1, 1, 3) },
		func(s *Speed, p *plain) { held(t, s, p, 3*one, 321, 3) },
		func(s *Speed, p *plain) { held(t, s, p, 1, 1, 3) },
		func(s *Speed, p *plain) { free(t, s, p, highest, true) },
		func(s *Speed, p *plain) { free(t, s, p, 2*one+1, true) },
		func(s *Speed, p *plain) { free(t, s, p, 0, true) },
		func(s *Speed, p *plain) { free(t, s, p, one, false) },
		func(s *Speed, p *plain) { left(t, s, p) },
	}
	const length = 4
	rows := 1
	for range length {
		rows *= len(calls)
	}
	for row := range rows {
		s, p := made(t, 2*one, 8*one)
		for rest, n := row, 0; n < length; rest, n = rest/len(calls), n+1 {
			calls[rest%len(calls)](s, p)
		}
	}
}

// P1: every pair of edges, at speeds of each kind.
func TestAnyArguments(t *testing.T) {
	refused, fine := 0, 0
	for i, size := range edges {
		for j, rtt := range edges {
			for k, limit := range rates {
				floor := floors[(i+j+k)%len(floors)]
				s, p := made(t, floor, floor.Add(limit))
				if held(t, s, p, limit, size, rtt) == api.OK {
					fine++
				} else {
					refused++
				}
				free(t, s, p, limit, (i+j)%2 == 0)
				left(t, s, p)
				free(t, s, p, highest-limit, true)
				holds(t, s.Copy(), p)
			}
		}
	}
	if fine == 0 || refused == 0 {
		t.Fatalf("%d fine, %d refused", fine, refused)
	}
}

// FuzzCalls takes each two bytes as a call, and holds all that is told against the model behind each.
func FuzzCalls(f *testing.F) {
	f.Add([]byte{}, uint64(0), uint64(1), 0)
	f.Add([]byte("\x00\x0a\x01\x0a\x02\x00\x03\x00\x04\x00"), uint64(2*one), uint64(8*one), 5)
	f.Add([]byte("\x02\x00\x02\x00\x03\x01\x05\x00\x01\x40\x04\x00"), uint64(1), uint64(highest), 1<<20)
	f.Add([]byte("\x06\x00\x06\x01\x04\x00\x01\x01"), uint64(highest), uint64(highest), first)
	f.Fuzz(func(t *testing.T, bytes []byte, floor, rate uint64, any int) {
		s, e := New(fix.F(floor), fix.F(rate))
		p, want := madePlain(fix.F(floor), fix.F(rate))
		if e != want || (s == nil) != (p == nil) {
			t.Fatalf("New(%d, %d): %d, not %d", floor, rate, e, want)
		}
		for ; s != nil && len(bytes) >= 2; bytes = bytes[2:] {
			n := int(bytes[1])
			switch bytes[0] % 8 {
			case 0:
				held(t, s, p, highest, n, any)
			case 1:
				held(t, s, p, fix.F(rate)/2+fix.F(n), any, n)
			case 2:
				free(t, s, p, highest, true)
			case 3:
				free(t, s, p, fix.F(floor)+fix.F(n), n%2 == 0)
			case 4:
				left(t, s, p)
			case 5:
				s, p = s.Copy(), p.copy()
			case 6:
				free(t, s, p, fix.F(any), true)
			default:
				held(t, s, p, fix.F(any), n+1, 1+n*4096)
			}
		}
	})
}
