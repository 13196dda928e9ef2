package trip

import (
	"math"
	"math/big"
	"slices"
	"testing"

	"terrace/api"
	"terrace/fix"
)

const (
	first   = math.MinInt
	last    = math.MaxInt
	most    = 1 << 20 // the longest sample
	one     = 1 << 32 // a tick, as bits
	highest = math.MaxUint64
)

// edges are the numbers that the chapter and the language make special.
var edges = []int{
	first, first + 1, first + api.MaxTick, -api.MaxTick - 1, -api.MaxTick, -most - 1, -most, -2, -1, 0, 1, 2, 3, 8,
	most - 1, most, most + 1, 1<<31 - 1, 1 << 31, 1<<32 - 1, 1 << 32, 1<<32 + 1,
	api.MaxTick - most - 1, api.MaxTick - most, api.MaxTick - most + 1, api.MaxTick - 1, api.MaxTick, api.MaxTick + 1,
	2 * api.MaxTick, 1 << 62, last - api.MaxTick, last - 1, last,
}

// guesses are those that New may be told: the edges of One and of Max, whole numbers and what lies between.
var guesses = []fix.F{
	0, 1, 2, 7, 8, one / 2, one - 2, one - 1, one, one + 1, one + 7, one + 8, one + 9, 3*one/2 - 1, 3 * one / 2, 2*one - 1, 2 * one, 2*one + 1,
	50 * one, 50*one + 1<<31, 1<<52 - 1, 1 << 52, 1<<52 + 1, 1<<63 - 1, 1 << 63, 1<<63 + one - 1,
	highest - one, highest - one + 1, highest - one + 2, highest - 1, highest,
}

// plain is what a trip is held against: what New was told, and how long each sample lasted, from the first one on.
type plain struct {
	told fix.F
	ever []int64
}

func (p *plain) copy() *plain { return &plain{p.told, slices.Clone(p.ever)} }

// within tells whether a long number lies from 0 to the greatest one.
func within(n *big.Int, greatest int64) bool {
	return n.Sign() >= 0 && n.Cmp(big.NewInt(greatest)) <= 0
}

func (p *plain) sample(now, echo, hold int) api.Errno {
	for _, n := range []int{now, echo, hold} {
		if !within(big.NewInt(int64(n)), 1099511627776) {
			return 11
		}
	}
	lasted := big.NewInt(int64(now))
	lasted.Sub(lasted, big.NewInt(int64(echo)))
	lasted.Sub(lasted, big.NewInt(int64(hold)))
	if !within(lasted, 1048576) {
		return 11
	}
	if lasted.Sign() == 0 {
		lasted.SetInt64(1)
	}
	p.ever = append(p.ever, lasted.Int64())
	return 0
}

// ticks is so many ticks as the bits of a number.
func ticks(n int64) *big.Int { return new(big.Int).Mul(big.NewInt(n), big.NewInt(4294967296)) }

// guess goes through all samples there ever were, an eighth of each in place of an eighth of what was guessed till then.
func (p *plain) guess() *big.Int {
	eight := big.NewInt(8)
	if len(p.ever) == 0 {
		n := new(big.Int).SetUint64(uint64(p.told))
		if n.Cmp(ticks(1)) < 0 {
			return ticks(1)
		}
		return n
	}
	guess := ticks(p.ever[0])
	for _, n := range p.ever[1:] {
		old := new(big.Int).Quo(guess, eight)
		guess.Sub(guess, old).Add(guess, old.Quo(ticks(n), eight))
	}
	return guess
}

// whole is the least whole number that isn't below the guess.
func (p *plain) whole() int64 {
	n, rest := new(big.Int).QuoRem(p.guess(), ticks(1), new(big.Int))
	return n.Int64() + int64(rest.Sign())
}

// holds is all that a trip tells, held against the model.
func holds(t testing.TB, x *Trip, p *plain) {
	t.Helper()
	if got, want := uint64(x.Get()), p.guess(); !want.IsUint64() || got != want.Uint64() {
		t.Fatalf("told %d, samples %v: Get: %d, not %d", p.told, p.ever, got, want)
	}
	if got, want := int64(x.Ticks()), p.whole(); got != want {
		t.Fatalf("told %d, samples %v: Ticks: %d, not %d", p.told, p.ever, got, want)
	}
	if got, want := x.Known(), len(p.ever); got != want {
		t.Fatalf("told %d: Known: %d, not %d", p.told, got, want)
	}
}

// sample measures one, of any numbers, and holds what is told of it against the model.
func sample(t testing.TB, x *Trip, p *plain, now, echo, hold int) api.Errno {
	t.Helper()
	got, want := x.Sample(now, echo, hold), p.sample(now, echo, hold)
	if got != want {
		t.Fatalf("Sample(%d, %d, %d): %d, not %d", now, echo, hold, got, want)
	}
	return got
}

func made(t testing.TB, told fix.F) (*Trip, *plain) {
	t.Helper()
	x := New(told)
	if x == nil {
		t.Fatal("New: nil")
	}
	return x, &plain{told: told}
}

// lasts measures samples that last so long, each at another tick and held for another while.
func lasts(t testing.TB, x *Trip, p *plain, long ...int) {
	t.Helper()
	for i, n := range long {
		echo, hold := 1000*i, 7*(i%3)
		if e := sample(t, x, p, echo+hold+n, echo, hold); e != api.OK {
			t.Fatalf("a sample of %d ticks: %d", n, e)
		}
	}
}

// measured makes a trip that had such samples.
func measured(t testing.TB, long ...int) (*Trip, *plain) {
	t.Helper()
	x, p := made(t, fix.Of(50))
	lasts(t, x, p, long...)
	tells(t, x, x.Get(), x.Ticks(), len(long))
	return x, p
}

// many is so many samples, each as long.
func many(count, long int) []int { return slices.Repeat([]int{long}, count) }

// tells is all that a trip tells, held against what is written out.
func tells(t testing.TB, x *Trip, guess fix.F, ticks, known int) {
	t.Helper()
	if x.Get() != guess || x.Ticks() != ticks || x.Known() != known {
		t.Fatalf("Get %d, Ticks %d, Known %d, not %d, %d and %d", x.Get(), x.Ticks(), x.Known(), guess, ticks, known)
	}
}

func errnoIs(t testing.TB, x *Trip, now, echo, hold int, want api.Errno) {
	t.Helper()
	if e := x.Sample(now, echo, hold); e != want {
		t.Fatalf("Sample(%d, %d, %d): %d, not %d", now, echo, hold, e, want)
	}
}
