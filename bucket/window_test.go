package bucket

import (
	"math/rand/v2"
	"testing"

	"terrace/fix"
)

// row is ticks that follow one another: the rate of each, and the bytes that were spent in it.
type row struct {
	rates []fix.F
	bytes []int
}

// tick is one of a row: Fill, the Spends of all those that may be, End.
func (r *row) tick(t testing.TB, b *Bucket, p *plain, rate fix.F, packets []int) {
	t.Helper()
	ahead := b.Spent()
	fill(t, b, p, rate)
	for _, n := range packets {
		spend(t, b, p, n)
	}
	end(t, b, p)
	r.rates, r.bytes = append(r.rates, rate), append(r.bytes, b.Spent()-ahead)
}

// within holds each stretch of the row against what is spent at most in it.
func (r *row) within(t testing.TB, size int) {
	t.Helper()
	for from := range r.rates {
		bytes := 0
		for to := from; to < len(r.rates); to++ {
			bytes += r.bytes[to]
			if bound := Most(r.rates[from:to+1], size); uint64(bytes) > bound {
				t.Fatalf("size %d, ticks %d to %d: %d bytes, at most %d may be", size, from, to, bytes, bound)
			}
		}
	}
}

// packetsOf are some packets of sizes that a bucket of that size may bear, and of others.
func packetsOf(x *rand.Rand, size int) []int {
	list := make([]int, x.IntN(12))
	for i := range list {
		list[i] = 1 + x.IntN(size)
		if x.IntN(8) == 0 {
			list[i] = edges[x.IntN(len(edges))]
		}
	}
	return list
}

// rateFor is any rate that keeps a bucket of that size at its edges: below it, beside it, above it, none, or any.
func rateFor(x *rand.Rand, size int) fix.F {
	whole := fix.Of(uint32(size))
	switch x.IntN(6) {
	case 0:
		return 0
	case 1:
		return rates[x.IntN(len(rates))]
	case 2:
		return whole.Half(x.IntN(6)).Add(fix.F(x.IntN(5))).Sub(2)
	case 3:
		return fix.F(x.Uint64() >> x.IntN(64))
	default:
		return fix.F(x.Uint64N(uint64(2 * whole)))
	}
}

// P20.2: in any ticks that follow one another no more bytes are spent than Most tells, with ticks among them that fill the bucket.
func TestNoMoreThanMost(t *testing.T) {
	full, bare := 0, 0
	for seed := range uint64(200) {
		x := rand.New(rand.NewPCG(20, seed))
		size := sizes[x.IntN(len(sizes))]
		b, p := made(t, size)
		r := row{}
		for range 60 {
			r.tick(t, b, p, rateFor(x, size), packetsOf(x, size))
			switch b.Tokens() {
			case fix.Of(uint32(size)):
				full++
			case 0:
				bare++
			}
		}
		r.within(t, size)
	}
	if full < 200 || bare < 20 {
		t.Fatalf("%d ticks left it full, %d bare", full, bare)
	}
}

// P20.2: who spends all that can be, byte by byte, stays within it as well, and what was left behind doesn't come again.
func TestNoMoreThanMostByteByByte(t *testing.T) {
	for seed := range uint64(60) {
		x := rand.New(rand.NewPCG(21, seed))
		size := sizes[x.IntN(len(sizes))]
		b, p := made(t, size)
		r := row{}
		for range 30 {
			packets := make([]int, x.IntN(3*size+1))
			for i := range packets {
				packets[i] = 1
			}
			r.tick(t, b, p, fix.F(x.Uint64N(uint64(size)<<33)), packets)
		}
		r.within(t, size)
	}
}

// bare spends packets of n bytes until none can be, and tells how many bytes went.
func bare(b *Bucket, n int) int {
	ahead := b.Spent()
	for b.Spend(n) {
	}
	return b.Spent() - ahead
}

// P20.2: where the bucket was full ahead, just as many bytes can be spent: all of the first tick, and all that comes.
func TestAsManyAsMost(t *testing.T) {
	for seed := range uint64(200) {
		x := rand.New(rand.NewPCG(22, seed))
		size := sizes[x.IntN(len(sizes))]
		b, _ := made(t, size)
		b.Fill(highest)
		b.Spend(1 + x.IntN(size))
		b.End()
		tells(t, "full", b, fix.Of(uint32(size)), b.Spent())
		list, got := []fix.F{}, 0
		for range x.IntN(40) {
			rate := fix.F(x.Uint64() >> (24 + x.IntN(40)))
			b.Fill(rate)
			got += bare(b, 1)
			b.End()
			list = append(list, rate)
		}
		if len(list) == 0 {
			got = bare(b, 1)
		}
		if want := Most(list, size); uint64(got) != want {
			t.Fatalf("size %d, %d ticks: %d bytes, not %d", size, len(list), got, want)
		}
	}
}

// P20.2: so it is where all comes in one tick, up to the greatest sum that there is.
func TestAsManyAsMostInOneTick(t *testing.T) {
	b, err := New(320)
	errnoIs(t, "New", err, 0)
	b.Fill(highest)
	b.End()
	rate := fix.F(highest - 320*one)
	b.Fill(rate)
	tells(t, "Fill", b, highest, 0)
	if got := bare(b, 320) + bare(b, 1); uint64(got) != Most([]fix.F{rate}, 320) || got != 4294967295 {
		t.Fatalf("%d bytes", got)
	}
	tells(t, "behind them", b, one-1, 4294967295)
}

// P20.2: who tries in each tick to send packets of one size until none can be sent sends all that the rates allow but less than one packet.
func TestAllButAPacket(t *testing.T) {
	for seed := range uint64(300) {
		x := rand.New(rand.NewPCG(23, seed))
		size := sizes[x.IntN(len(sizes))]
		n := 1 + x.IntN(size)
		if seed%5 == 0 {
			n = size
		}
		b, _ := made(t, size)
		sum := fix.F(0)
		for range 200 {
			rate := fix.F(x.Uint64() >> (20 + x.IntN(44)))
			b.Fill(rate)
			sum = sum.Add(rate)
			bare(b, n)
			b.End()
			sent := fix.Of(uint32(b.Spent()))
			if sent > sum || sum-sent >= fix.Of(uint32(n)) || b.Tokens() != sum-sent {
				t.Fatalf("size %d, packets of %d: %d of %d", size, n, sent, sum)
			}
		}
	}
}

// P20.2: written out: a bucket of 10 that was full bears 22 bytes in two ticks of 6; one that was bare 12.
func TestTwoTicks(t *testing.T) {
	for _, c := range []struct {
		first fix.F
		want  int
	}{{50 * one, 22}, {10 * one, 22}, {9 * one, 21}, {one - 1, 12}, {0, 12}} {
		b, p := filled(t, 10, c.first)
		end(t, b, p)
		got := 0
		for range 2 {
			b.Fill(6 * one)
			got += bare(b, 1)
			b.End()
		}
		if got != c.want {
			t.Fatalf("with %d ahead: %d bytes, not %d", c.first, got, c.want)
		}
	}
	if got := Most([]fix.F{6 * one, 6 * one}, 10); got != 22 {
		t.Fatalf("Most: %d", got)
	}
}
