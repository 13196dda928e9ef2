package bucket

import (
	"math"
	"math/big"
	"testing"

	"terrace/api"
	"terrace/fix"
)

const (
	first   = math.MinInt
	last    = math.MaxInt
	highest = math.MaxUint64
	one     = 1 << 32
)

// edges are the numbers that the chapter and the language make special.
var edges = []int{
	first, first + 1, first + 10, first + 320, -1 << 32, 1 - 1<<32, 10 - 1<<32, 320 - 1<<32, -1 << 31, -321, -320, -10, -2, -1,
	0, 1, 2, 3, 5, 9, 10, 11, 63, 64, 100, 255, 256, 257, 266, 319, 320, 321, 576, 1<<16 + 10, 1<<31 - 1, 1 << 31, 1<<31 + 10,
	1<<32 - 1, 1 << 32, 1<<32 + 1, 1<<32 + 10, 1<<32 + 320, api.MaxTick, 1 << 62, last - 320, last - 1, last,
}

// sizes are those that a bucket can have, at both ends and between.
var sizes = []int{1, 2, 3, 10, 255, 256, 257, 319, 320}

// rates are those beside each other, beside a whole number, beside a packet, and the ends.
var rates = []fix.F{
	0, 1, 2, 3, one/3 - 1, one / 3, one/3 + 1, one/2 - 1, one / 2, one/2 + 1, one - 1, one, one + 1, 2*one - 1, 2 * one, 2*one + 1,
	9 * one, 10*one - 1, 10 * one, 10*one + 1, 11 * one, 319 * one, 320*one - 1, 320 * one, 320*one + 1, 640 * one,
	1<<63 - 1, 1 << 63, 1<<63 + 1, highest - 320*one - 1, highest - 320*one, highest - 10*one,
	highest - one - 1, highest - one, highest - one + 1, highest - 2, highest - 1, highest,
}

// plain is what a bucket is held against: its tokens behind each call that was ever made, in long numbers of bits, and each packet that was ever sent.
type plain struct {
	size int
	had  []*big.Int
	sent []int
}

func long(rate fix.F) *big.Int { return new(big.Int).SetUint64(uint64(rate)) }

// bitsOf is n bytes, in bits.
func bitsOf(n int) *big.Int { return new(big.Int).Lsh(big.NewInt(int64(n)), 32) }

func (p *plain) tokens() *big.Int { return p.had[len(p.had)-1] }

func (p *plain) spent() int {
	sum := 0
	for _, n := range p.sent {
		sum += n
	}
	return sum
}

func madePlain(size int) (*plain, api.Errno) {
	if size <= 0 || size > 320 {
		return nil, 11
	}
	return &plain{size: size, had: []*big.Int{big.NewInt(0)}}, 0
}

// lesser is the one that isn't above the other one.
func lesser(a, b *big.Int) *big.Int {
	if a.Cmp(b) < 0 {
		return a
	}
	return b
}

func (p *plain) fill(rate fix.F) {
	p.had = append(p.had, lesser(new(big.Int).Add(p.tokens(), long(rate)), long(highest)))
}

func (p *plain) can(n int) bool {
	return n > 0 && n <= p.size && p.tokens().Cmp(bitsOf(n)) >= 0
}

func (p *plain) spend(n int) bool {
	if !p.can(n) {
		return false
	}
	p.had = append(p.had, new(big.Int).Sub(p.tokens(), bitsOf(n)))
	p.sent = append(p.sent, n)
	return true
}

func (p *plain) end() { p.had = append(p.had, lesser(p.tokens(), bitsOf(p.size))) }

func (p *plain) copy() *plain {
	return &plain{p.size, append([]*big.Int(nil), p.had...), append([]int(nil), p.sent...)}
}

// mostPlain is how many bytes there may be in ticks of these rates, where that is promised: for a size that a bucket can have.
func mostPlain(rates []fix.F, size int) uint64 {
	sum := bitsOf(size)
	for _, rate := range rates {
		sum.Add(sum, long(rate))
	}
	return new(big.Int).Rsh(lesser(sum, long(highest)), 32).Uint64()
}

// made is a new bucket, and its model.
func made(t testing.TB, size int) (*Bucket, *plain) {
	t.Helper()
	b, e := New(size)
	p, want := madePlain(size)
	if b == nil || p == nil || e != api.OK || want != 0 {
		t.Fatalf("New(%d): %v, %d", size, b, e)
	}
	holds(t, b, p)
	return b, p
}

// filled is a bucket that has so many tokens, and its model.
func filled(t testing.TB, size int, tokens fix.F) (*Bucket, *plain) {
	t.Helper()
	b, p := made(t, size)
	fill(t, b, p, tokens)
	return b, p
}

// holds is all that a bucket tells, held against the model.
func holds(t testing.TB, b *Bucket, p *plain) {
	t.Helper()
	for range 2 { // to tell changes nothing
		if got := b.Tokens(); long(got).Cmp(p.tokens()) != 0 {
			t.Fatalf("Tokens: %d, not %s", got, p.tokens())
		}
		if got, want := b.Spent(), p.spent(); got != want {
			t.Fatalf("Spent: %d, not %d", got, want)
		}
	}
}

// tells holds tokens and what was spent against what is written out.
func tells(t testing.TB, name string, b *Bucket, tokens fix.F, spent int) {
	t.Helper()
	if b.Tokens() != tokens || b.Spent() != spent {
		t.Fatalf("%s: %d and %d, not %d and %d", name, b.Tokens(), b.Spent(), tokens, spent)
	}
}

// errnoIs holds an answer against the one that is written out.
func errnoIs(t testing.TB, name string, got, want api.Errno) {
	t.Helper()
	if got != want {
		t.Fatalf("%s: %d, not %d", name, got, want)
	}
}

// is holds an answer against the one that is written out.
func is(t testing.TB, name string, got, want bool) {
	t.Helper()
	if got != want {
		t.Fatalf("%s: %v", name, got)
	}
}

// fill makes the call of both, and holds what is told behind it.
func fill(t testing.TB, b *Bucket, p *plain, rate fix.F) {
	t.Helper()
	b.Fill(rate)
	p.fill(rate)
	holds(t, b, p)
}

// can makes the call of both, and holds what is answered, and that nothing is changed.
func can(t testing.TB, b *Bucket, p *plain, n int) bool {
	t.Helper()
	got, want := b.Can(n), p.can(n)
	if got != want {
		t.Fatalf("Can(%d) of %d with %s: %v", n, p.size, p.tokens(), got)
	}
	holds(t, b, p)
	return got
}

// spend makes the call of both, and holds what is answered, what is told behind it, and that Can said so ahead.
func spend(t testing.TB, b *Bucket, p *plain, n int) bool {
	t.Helper()
	could := can(t, b, p, n)
	was := p.tokens()
	got, want := b.Spend(n), p.spend(n)
	if got != want || got != could {
		t.Fatalf("Spend(%d) of %d with %s: %v", n, p.size, was, got)
	}
	holds(t, b, p)
	return got
}

// end makes the call of both, and holds what is told behind it.
func end(t testing.TB, b *Bucket, p *plain) {
	t.Helper()
	b.End()
	p.end()
	holds(t, b, p)
	if long(b.Tokens()).Cmp(bitsOf(p.size)) > 0 {
		t.Fatalf("End: %d are more than %d bytes", b.Tokens(), p.size)
	}
}
