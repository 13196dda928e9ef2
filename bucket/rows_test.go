package bucket

import (
	"math/rand/v2"
	"testing"

	"terrace/fix"
)

// P20.1: a copy tells the same, behind New and behind calls of each kind.
func TestCopyTellsTheSame(t *testing.T) {
	for _, size := range sizes {
		for _, rate := range rates {
			b, p := made(t, size)
			holds(t, b.Copy(), p)
			fill(t, b, p, rate)
			holds(t, b.Copy(), p)
			spend(t, b, p, size)
			holds(t, b.Copy(), p)
			spend(t, b, p, 1)
			holds(t, b.Copy(), p)
			end(t, b, p)
			holds(t, b.Copy().Copy(), p)
		}
	}
}

// P20.1: a copy has the size, too.
func TestCopyHasTheSize(t *testing.T) {
	for size := 1; size <= 320; size++ {
		b, p := filled(t, size, highest)
		c, q := b.Copy(), p.copy()
		is(t, "Spend above it", spend(t, c, q, size+1), false)
		is(t, "Spend", spend(t, c, q, size), true)
		end(t, c, q)
		tells(t, "End", c, fix.Of(uint32(size)), size)
		tells(t, "the first one", b, highest, 0)
	}
}

// P20.1: neither a copy nor what it was made of is changed by what is done to the other one.
func TestCopiesGoTheirOwnWays(t *testing.T) {
	deeds := []func(b *Bucket, p *plain){
		func(b *Bucket, p *plain) { fill(t, b, p, 4*one) },
		func(b *Bucket, p *plain) { fill(t, b, p, 9*one+1) },
		func(b *Bucket, p *plain) { fill(t, b, p, highest) },
		func(b *Bucket, p *plain) { spend(t, b, p, 1) },
		func(b *Bucket, p *plain) { spend(t, b, p, 10) },
		func(b *Bucket, p *plain) { spend(t, b, p, 11) },
		func(b *Bucket, p *plain) { can(t, b, p, 10) },
		func(b *Bucket, p *plain) { end(t, b, p) },
	}
	for _, x := range deeds {
		for _, y := range deeds {
			for _, z := range deeds {
				b, p := filled(t, 10, 8*one)
				x(b, p)
				c, q := b.Copy(), p.copy()
				y(b, p)
				holds(t, c, q)
				z(c, q)
				holds(t, b, p)
				x(b, p)
				y(c, q)
				holds(t, b, p)
				holds(t, c, q)
			}
		}
	}
}

// seen is how often something of a kind became of the calls, so that no kind is missed.
type seen struct{ filled, full, spent, few, refused, cut, kept int }

// anyNumber is any number of bytes: anywhere in the size, beside it, or one of the edges.
func anyNumber(x *rand.Rand, size int) int {
	switch x.IntN(4) {
	case 0:
		return edges[x.IntN(len(edges))]
	case 1:
		return size + x.IntN(5) - 2
	default:
		return 1 + x.IntN(size)
	}
}

// stepSpend makes a call of Spend, and counts what became of it.
func stepSpend(t testing.TB, x *rand.Rand, b *Bucket, p *plain, n *seen) {
	t.Helper()
	bytes := anyNumber(x, p.size)
	switch {
	case spend(t, b, p, bytes):
		n.spent++
	case bytes < 1 || bytes > p.size:
		n.refused++
	default:
		n.few++
	}
}

// step makes one of any calls.
func step(t testing.TB, x *rand.Rand, b *Bucket, p *plain, n *seen) {
	t.Helper()
	switch x.IntN(8) {
	case 0, 1:
		fill(t, b, p, rateFor(x, p.size))
		if b.Tokens() == highest {
			n.full++
		} else {
			n.filled++
		}
	case 2, 3, 4, 5:
		stepSpend(t, x, b, p, n)
	case 6:
		can(t, b, p, anyNumber(x, p.size))
	default:
		was := b.Tokens()
		end(t, b, p)
		if b.Tokens() < was {
			n.cut++
		} else {
			n.kept++
		}
	}
}

// P20.1: many calls in an open order.
func TestLongRows(t *testing.T) {
	all := seen{}
	for seed := range uint64(100) {
		x := rand.New(rand.NewPCG(24, seed))
		b, p := made(t, sizes[x.IntN(len(sizes))])
		if seed%2 == 0 {
			b, p = made(t, 1+x.IntN(320))
		}
		for range 400 {
			step(t, x, b, p, &all)
			if x.IntN(50) == 0 {
				b, p = b.Copy(), p.copy()
			}
		}
	}
	if min(all.filled, all.full, all.spent, all.few, all.refused, all.cut, all.kept) < 150 {
		t.Fatalf("too few of a kind: %+v", all)
	}
}

// P20.1: every short row of calls.
func TestShortRows(t *testing.T) {
	calls := []func(b *Bucket, p *plain){
		func(b *Bucket, p *plain) { fill(t, b, p, 1) },
		func(b *Bucket, p *plain) { fill(t, b, p, one-1) },
		func(b *Bucket, p *plain) { fill(t, b, p, 4*one) },
		func(b *Bucket, p *plain) { fill(t, b, p, 11*one) },
		func(b *Bucket, p *plain) { fill(t, b, p, highest) },
		func(b *Bucket, p *plain) { spend(t, b, p, 1) },
		func(b *Bucket, p *plain) { spend(t, b, p, 9) },
		func(b *Bucket, p *plain) { spend(t, b, p, 10) },
		func(b *Bucket, p *plain) { spend(t, b, p, 11) },
		func(b *Bucket, p *plain) { end(t, b, p) },
	}
	const length = 5
	rows := 1
	for range length {
		rows *= len(calls)
	}
	for row := range rows {
		b, p := made(t, 10)
		for rest, n := row, 0; n < length; rest, n = rest/len(calls), n+1 {
			calls[rest%len(calls)](b, p)
		}
	}
}

// P1: every pair of edges, at buckets of each size.
func TestAnyArguments(t *testing.T) {
	fine, refused := 0, 0
	for i, n := range edges {
		for j, other := range edges {
			for k, rate := range rates {
				b, p := filled(t, sizes[(i+j+k)%len(sizes)], rate)
				for _, bytes := range []int{n, other} {
					if spend(t, b, p, bytes) {
						fine++
					} else {
						refused++
					}
				}
				fill(t, b, p, highest-rate)
				end(t, b, p)
				Most([]fix.F{rate, highest - rate}, n)
			}
		}
	}
	if fine == 0 || refused == 0 {
		t.Fatalf("%d fine, %d refused", fine, refused)
	}
}

// FuzzCalls takes each two bytes as a call, and holds all that is told against the model behind each.
func FuzzCalls(f *testing.F) {
	f.Add([]byte{}, 0, uint64(0))
	f.Add([]byte("\x00\x04\x02\x09\x04\x00\x00\x04\x02\x09\x04\x00\x00\x04\x02\x09\x04\x00"), 10, uint64(one))
	f.Add([]byte("\x01\x00\x02\xff\x05\x00\x02\x40\x04\x00\x06\x00"), 320, uint64(highest))
	f.Add([]byte("\x01\x00\x06\x00\x03\x01\x04\x00\x02\x01"), first, uint64(1))
	f.Fuzz(func(t *testing.T, bytes []byte, size int, rate uint64) {
		b, e := New(size)
		p, want := madePlain(size)
		if e != want || (b == nil) != (p == nil) {
			t.Fatalf("New(%d): %d, not %d", size, e, want)
		}
		Most([]fix.F{fix.F(rate), fix.F(rate)}, size)
		for ; b != nil && len(bytes) >= 2; bytes = bytes[2:] {
			n := int(bytes[1])
			switch bytes[0] % 8 {
			case 0:
				fill(t, b, p, fix.F(rate/16*uint64(n)))
			case 1:
				fill(t, b, p, fix.F(rate))
			case 2:
				spend(t, b, p, n)
			case 3:
				spend(t, b, p, size-n)
			case 4:
				end(t, b, p)
			case 5:
				b, p = b.Copy(), p.copy()
			case 6:
				spend(t, b, p, int(rate))
			default:
				most(t, []fix.F{fix.F(rate), fix.F(n)}, size)
			}
		}
	})
}
