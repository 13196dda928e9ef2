package speed

import (
	"math"
	"math/big"
	"testing"

	"terrace/api"
	"terrace/fix"
)

const (
	first   = math.MinInt
	last    = math.MaxInt
	highest = math.MaxUint64
	one     = 1 << 32
)

// edges are the numbers that the chapter and the language make special.
var edges = []int{
	first, first + 1, first + 10, first + 320, first + 1<<20, -1 << 32, -1 << 20, -320, -64, -2, -1, 0, 1, 2, 3, 5, 10,
	319, 320, 321, 1<<20 - 1, 1 << 20, 1<<20 + 1, 1<<32 - 1, 1 << 32, 1<<32 + 1, 1<<32 + 10, 1<<32 + 320,
	api.MaxTick - 1, api.MaxTick, api.MaxTick + 1, 1 << 62, last - 1<<20, last - 320, last - 1, last,
}

// rates are those beside each other, beside a whole number, beside half of all, beside the steps, and the ends.
var rates = []fix.F{
	0, 1, 2, 3, 4, 5, 4095, 4096, 4097, one - 1, one, one + 1, 2*one - 1, 2 * one, 2*one + 1, 8 * one, 9 * one,
	320*one - 1, 320 * one, 320*one + 1, 1<<62 - 1, 1 << 62, 1<<62 + 1, 1<<63 - 1, 1 << 63, 1<<63 + 1,
	highest - 320*one - 1, highest - 320*one, highest - 320*one + 1, highest - 4096, highest - 1, highest,
}

// plain is what a speed is held against: its floor, and each rate that it ever had, in long numbers of bits.
type plain struct {
	floor *big.Int
	had   []*big.Int
}

func long(rate fix.F) *big.Int { return new(big.Int).SetUint64(uint64(rate)) }

func (p *plain) rate() *big.Int { return p.had[len(p.had)-1] }

// become lays the least of these, or the floor, or all bits, if it is beyond them.
func (p *plain) become(these ...*big.Int) {
	rate := long(highest)
	for _, x := range these {
		if x.Cmp(rate) < 0 {
			rate = x
		}
	}
	if rate.Cmp(p.floor) < 0 {
		rate = p.floor
	}
	p.had = append(p.had, rate)
}

func madePlain(floor, first fix.F) (*plain, api.Errno) {
	if floor == 0 || long(first).Cmp(long(floor)) < 0 {
		return nil, 11
	}
	return &plain{long(floor), []*big.Int{long(first)}}, 0
}

// stepOf is what a packet more in each round trip is, in bits, rounded down.
func stepOf(size, rtt int) *big.Int {
	bits := new(big.Int).Mul(big.NewInt(int64(size)), big.NewInt(4294967296))
	return bits.Quo(bits, big.NewInt(int64(rtt)))
}

func (p *plain) held(limit fix.F, size, rtt int) api.Errno {
	if size <= 0 || size > 320 || rtt <= 0 || rtt > 1048576 {
		return 11
	}
	p.become(long(limit), new(big.Int).Add(p.rate(), stepOf(size, rtt)))
	return 0
}

func (p *plain) free(least fix.F, some bool) {
	if !some {
		return
	}
	two := big.NewInt(2)
	p.become(new(big.Int).Mul(two, long(least)), new(big.Int).Mul(two, p.rate()))
}

func (p *plain) left() { p.become(new(big.Int).Quo(p.rate(), big.NewInt(2))) }

func (p *plain) copy() *plain { return &plain{p.floor, append([]*big.Int(nil), p.had...)} }

// made is a new speed, and its model.
func made(t testing.TB, floor, first fix.F) (*Speed, *plain) {
	t.Helper()
	s, e := New(floor, first)
	p, want := madePlain(floor, first)
	if s == nil || p == nil || e != api.OK || want != 0 {
		t.Fatalf("New(%d, %d): %v, %d", floor, first, s, e)
	}
	holds(t, s, p)
	return s, p
}

// holds is all that a speed tells, held against the model.
func holds(t testing.TB, s *Speed, p *plain) {
	t.Helper()
	for range 2 { // to tell changes nothing
		if got := s.Rate(); long(got).Cmp(p.rate()) != 0 {
			t.Fatalf("Rate: %d, not %s", got, p.rate())
		}
		if got := s.Floor(); long(got).Cmp(p.floor) != 0 {
			t.Fatalf("Floor: %d, not %s", got, p.floor)
		}
		if s.Rate() < s.Floor() {
			t.Fatalf("Rate: %d, below %d", s.Rate(), s.Floor())
		}
	}
}

// rateIs holds the rate against the one that is written out.
func rateIs(t testing.TB, name string, s *Speed, want fix.F) {
	t.Helper()
	if got := s.Rate(); got != want {
		t.Fatalf("%s: the rate is %d, not %d", name, got, want)
	}
}

// errnoIs holds an answer against the one that is written out.
func errnoIs(t testing.TB, name string, got, want api.Errno) {
	t.Helper()
	if got != want {
		t.Fatalf("%s: %d, not %d", name, got, want)
	}
}

// atMost holds a rate against a bound; where that is below the floor, the floor is it.
func atMost(t testing.TB, name string, rate fix.F, bound, floor *big.Int) {
	t.Helper()
	if bound.Cmp(floor) < 0 {
		bound = floor
	}
	if long(rate).Cmp(bound) > 0 {
		t.Fatalf("%s: %d is above %s", name, rate, bound)
	}
}

// held makes the call of both, and holds what is answered, what is told behind it, and its bounds.
func held(t testing.TB, s *Speed, p *plain, limit fix.F, size, rtt int) api.Errno {
	t.Helper()
	was := long(s.Rate())
	got, want := s.Held(limit, size, rtt), p.held(limit, size, rtt)
	if got != want {
		t.Fatalf("Held(%d, %d, %d): %d, not %d", limit, size, rtt, got, want)
	}
	holds(t, s, p)
	if got == api.OK {
		atMost(t, "Held, by its limit", s.Rate(), long(limit), p.floor)
		atMost(t, "Held, by its step", s.Rate(), was.Add(was, stepOf(size, rtt)), big.NewInt(0))
	}
	return got
}

// free makes the call of both, and holds what is told behind it, and its bounds.
func free(t testing.TB, s *Speed, p *plain, least fix.F, some bool) {
	t.Helper()
	was := long(s.Rate())
	s.Free(least, some)
	p.free(least, some)
	holds(t, s, p)
	atMost(t, "Free, by what it was", s.Rate(), was.Lsh(was, 1), big.NewInt(0))
	if some {
		atMost(t, "Free, by what was reported", s.Rate(), new(big.Int).Lsh(long(least), 1), p.floor)
	}
}

// left makes the call of both, and holds what is told behind it.
func left(t testing.TB, s *Speed, p *plain) {
	t.Helper()
	s.Left()
	p.left()
	holds(t, s, p)
}
