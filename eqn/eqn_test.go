package eqn

import (
	"math/big"
	"math/rand/v2"
	"slices"
	"testing"

	"terrace/fix"
)

const (
	topSize  = uint32(1<<32 - 1)
	topWord  = uint64(1<<64 - 1)
	randomly = 20000
)

// A word of long numbers: reckoned without package fix, so that a slip in either one is seen.
func bigOf(n uint64) *big.Int { return new(big.Int).SetUint64(n) }

func capped(n *big.Int) uint64 {
	if !n.IsUint64() {
		return topWord
	}
	return n.Uint64()
}

func product(a, b uint64) uint64 {
	n := new(big.Int).Mul(bigOf(a), bigOf(b))
	return capped(n.Rsh(n, 32))
}

func sum(a, b uint64) uint64 { return capped(new(big.Int).Add(bigOf(a), bigOf(b))) }

func quotient(a, b uint64) uint64 {
	n := new(big.Int).Lsh(bigOf(a), 32)
	return capped(n.Quo(n, bigOf(b)))
}

func root(a uint64) uint64 {
	n := new(big.Int).Lsh(bigOf(a), 32)
	return capped(n.Sqrt(n))
}

// wantRate is the chapter's sentence, step by step, in long numbers.
func wantRate(size uint32, rtt, p fix.F) fix.F {
	loss := uint64(p)
	a := root(product(loss, quotient(2, 3)))
	left := product(12<<32, root(product(loss, quotient(3, 8))))
	right := product(loss, sum(1<<32, product(32<<32, product(loss, loss))))
	d := product(uint64(rtt), sum(a, product(left, right)))
	if p == 0 || d == 0 {
		return fix.Max
	}
	return fix.F(quotient(uint64(size)<<32, d))
}

func sizes() []uint32 {
	return []uint32{0, 1, 2, 3, 64, 320, 1000, 1 << 14, 1<<31 - 1, 1 << 31, topSize - 1, topSize}
}

// numbers are, rising, the edges of a number, those beside each power of 2, and some tenths.
func numbers() []fix.F {
	list := []fix.F{0, 1, 2, 3, 4, 5, fix.One - 1, fix.One, fix.One + 1, fix.Max - 1, fix.Max}
	for place := 3; place < 64; place++ {
		list = append(list, 1<<place-1, 1<<place, 1<<place+1)
	}
	for tenths := uint64(1); tenths < 40; tenths++ {
		list = append(list, fix.Ratio(tenths, 10))
	}
	slices.Sort(list)
	return slices.Compact(list)
}

// arguments are any: numbers of all lengths, so that great and small ones meet.
type arguments struct {
	size       uint32
	rtt, other fix.F
}

func anyArguments(count int) []arguments {
	source := rand.New(rand.NewPCG(5, 6))
	list := make([]arguments, count)
	for i := range list {
		list[i] = arguments{
			size:  source.Uint32() >> source.IntN(32),
			rtt:   fix.F(source.Uint64() >> source.IntN(64)),
			other: fix.F(source.Uint64() >> source.IntN(64)),
		}
	}
	return list
}

// P3.1: rates written out, ordinary ones and each edge.
func TestNamedRates(t *testing.T) {
	for _, c := range []struct {
		size         uint32
		rtt, p, want fix.F
	}{
		{1000, fix.One, fix.Ratio(1, 100), 48246328655604},
		{1000, fix.Of(2), fix.One, 8825904646},
		{320, fix.Ratio(3, 2), fix.Ratio(1, 7), 949975854636},
		{320, fix.One, fix.Ratio(1, 3), 198785487704},
		{320, fix.One, fix.Of(5), 20883985},
		{64, fix.Of(7), fix.Ratio(5, 9), 1165063046},
		{1, fix.One, fix.One, 17651809},
		{topSize, fix.One, fix.One, 75813943608594142},
		// p of 0, rtt of 0, and a divisor that rounds to 0.
		{1000, fix.One, 0, fix.Max},
		{1000, fix.Max, 0, fix.Max},
		{1000, 0, fix.One, fix.Max},
		{1000, 0, fix.Max, fix.Max},
		{0, 0, 0, fix.Max},
		{0, fix.One, 1, fix.Max},
		{1000, fix.One, 1, fix.Max},
		{1000, fix.Max, 1, fix.Max},
		{0, 1, fix.Ratio(1, 100), fix.Max},
		// The least p and the least rtt that have a divisor above 0.
		{1000, fix.One, 2, 281474976710656000},
		{0, fix.One, 2, 0},
		{1000, 1, fix.Max, 4294967297000},
		// The least size, and the greatest numbers.
		{0, fix.One, fix.One, 0},
		{0, fix.Max, fix.Max, 0},
		{topSize, fix.One, 2, fix.Max},
		{topSize, fix.Max, fix.Max, 4294967295},
		{1000, fix.One, fix.Max, 1000},
		{1000, fix.Max, fix.One, 1000},
		{1000, fix.Max, 2, 65536000},
	} {
		if got := Rate(c.size, c.rtt, c.p); got != c.want {
			t.Errorf("Rate(%d, %d, %d) = %d, want %d", c.size, c.rtt, c.p, got, c.want)
		}
	}
}

// P3.1: each step rounds as the chapter says.
func TestRateByLongNumbers(t *testing.T) {
	check := func(size uint32, rtt, p fix.F) {
		if got, want := Rate(size, rtt, p), wantRate(size, rtt, p); got != want {
			t.Fatalf("Rate(%d, %d, %d) = %d, want %d", size, rtt, p, got, want)
		}
	}
	for _, p := range numbers() {
		for _, rtt := range []fix.F{0, 1, 2, fix.One - 1, fix.One, fix.Of(3), fix.Of(topSize), fix.Max} {
			for _, size := range sizes() {
				check(size, rtt, p)
			}
		}
	}
	for _, c := range anyArguments(randomly) {
		check(c.size, c.rtt, c.other)
		check(c.size, c.rtt, c.other&(fix.One-1))
	}
}

// P3.1: never more at a greater p, also above One.
func TestRateNeverGrowsWithLoss(t *testing.T) {
	for _, rtt := range []fix.F{0, 1, 1000, fix.Ratio(1, 3), fix.One, fix.Of(40), fix.Max} {
		for _, size := range sizes() {
			last := fix.Max
			for _, p := range numbers() {
				rate := Rate(size, rtt, p)
				if rate > last {
					t.Fatalf("Rate(%d, %d, %d) = %d, above %d", size, rtt, p, rate, last)
				}
				last = rate
			}
		}
	}
}

// P3.1: never more at a greater rtt.
func TestRateNeverGrowsWithTrip(t *testing.T) {
	for _, p := range []fix.F{0, 1, 2, 1000, fix.Ratio(1, 3), fix.One, fix.Of(40), fix.Max} {
		for _, size := range sizes() {
			last := fix.Max
			for _, rtt := range numbers() {
				rate := Rate(size, rtt, p)
				if rate > last {
					t.Fatalf("Rate(%d, %d, %d) = %d, above %d", size, rtt, p, rate, last)
				}
				last = rate
			}
		}
	}
}

// P3.1: never less at a greater size.
func TestRateNeverFallsWithSize(t *testing.T) {
	for _, p := range numbers() {
		for _, rtt := range []fix.F{0, 1, fix.Ratio(1, 3), fix.One, fix.Of(40), fix.Max} {
			last := fix.F(0)
			for _, size := range sizes() {
				rate := Rate(size, rtt, p)
				if rate < last {
					t.Fatalf("Rate(%d, %d, %d) = %d, below %d", size, rtt, p, rate, last)
				}
				last = rate
			}
		}
	}
}

// P3.1: any two neighbours or any two at all, in all three ways.
func TestRateGoesOneWayAnywhere(t *testing.T) {
	list := anyArguments(randomly)
	for i, c := range list {
		other := list[(i+1)%len(list)]
		rate := Rate(c.size, c.rtt, c.other)
		for _, p := range []fix.F{c.other.Add(1), c.other.Add(other.other)} {
			if Rate(c.size, c.rtt, p) > rate {
				t.Fatalf("Rate(%d, %d, %d) grows to p %d", c.size, c.rtt, c.other, p)
			}
		}
		for _, rtt := range []fix.F{c.rtt.Add(1), c.rtt.Add(other.rtt)} {
			if Rate(c.size, rtt, c.other) > rate {
				t.Fatalf("Rate(%d, %d, %d) grows to rtt %d", c.size, c.rtt, c.other, rtt)
			}
		}
		if c.size < topSize && Rate(c.size+1, c.rtt, c.other) < rate {
			t.Fatalf("Rate(%d, %d, %d) falls with size", c.size, c.rtt, c.other)
		}
	}
}

// P3.2: losses written out, and how many packets lie between two of them.
func TestNamedLosses(t *testing.T) {
	for _, c := range []struct {
		size            uint32
		rtt, rate, want fix.F
		first           uint32
	}{
		{1000, fix.One, 48246328655604, 42949672, 100},
		{100, fix.One, fix.Of(1000), 52281416, 82},
		{100, fix.One, fix.Of(10), 1622511499, 2},
		{100, fix.One, fix.One, 3308255509, 1},
		{1, fix.Max, 1, 389893196, 11},
		// A rate that no p has.
		{100, fix.One, 0, fix.One, 1},
		{100, fix.One, 1765180928, fix.One, 1},
		{100, 0, fix.Of(5), fix.One, 1},
		{0, 0, 0, fix.One, 1},
		{100, 0, fix.Max - 1, fix.One, 1},
		{topSize, fix.One, fix.One, fix.One, 1},
		{1, 1, fix.One, fix.One, 1},
		// One is the first one that serves.
		{100, fix.One, 1765180929, fix.One, 1},
		// A rate of 0 that is one, as the size is 0.
		{0, fix.One, 0, 2, 1 << 31},
		{0, fix.Max, 0, 2, 1 << 31},
		// Rates up to Max: 1 bit serves only at Max, and its quotient is above all numbers.
		{100, fix.One, fix.Max, 1, topSize},
		{100, 0, fix.Max, 1, topSize},
		{topSize, fix.Max, fix.Max, 1, topSize},
		{100, fix.One, fix.Max - 1, 2, 1 << 31},
		{topSize, fix.One, fix.Max - 1, 626506737, 6},
	} {
		if got := Loss(c.size, c.rtt, c.rate); got != c.want {
			t.Errorf("Loss(%d, %d, %d) = %d, want %d", c.size, c.rtt, c.rate, got, c.want)
		}
		if got := First(c.size, c.rtt, c.rate); got != c.first {
			t.Errorf("First(%d, %d, %d) = %d, want %d", c.size, c.rtt, c.rate, got, c.first)
		}
	}
}

// checkLoss: it serves and the one below it doesn't; or it is One, and not even One serves.
func checkLoss(t *testing.T, size uint32, rtt, rate fix.F) {
	t.Helper()
	p := Loss(size, rtt, rate)
	if p < 1 || p > fix.One {
		t.Fatalf("Loss(%d, %d, %d) = %d, which is none", size, rtt, rate, p)
	}
	if p < fix.One && wantRate(size, rtt, p) > rate {
		t.Fatalf("Loss(%d, %d, %d) = %d doesn't serve", size, rtt, rate, p)
	}
	if p > 1 && wantRate(size, rtt, p-1) <= rate {
		t.Fatalf("Loss(%d, %d, %d) = %d, but the one below serves", size, rtt, rate, p)
	}
	first := max(quotient(1<<32, uint64(p))>>32, 1)
	if got := First(size, rtt, rate); uint64(got) != first {
		t.Fatalf("First(%d, %d, %d) = %d, want %d", size, rtt, rate, got, first)
	}
}

// P3.2: the least p that serves, whatever is asked.
func TestLossIsTheLeast(t *testing.T) {
	for _, rate := range numbers() {
		for _, rtt := range []fix.F{0, 1, fix.Ratio(1, 3), fix.One, fix.Of(40), fix.Max} {
			for _, size := range []uint32{0, 1, 320, topSize} {
				checkLoss(t, size, rtt, rate)
			}
		}
	}
	for _, c := range anyArguments(4000) {
		checkLoss(t, c.size, c.rtt, c.other)
	}
}

// P3.2: of a rate that a p has, Loss is that p or one below it of the same rate.
func TestLossOfARate(t *testing.T) {
	for hundredth := uint64(1); hundredth <= 100; hundredth++ {
		p := fix.Ratio(hundredth, 100)
		rate := Rate(1000, fix.Of(2), p)
		q := Loss(1000, fix.Of(2), rate)
		if q > p || Rate(1000, fix.Of(2), q) != rate {
			t.Errorf("Loss of the rate of %d is %d", p, q)
		}
		checkLoss(t, 1000, fix.Of(2), rate)
		checkLoss(t, 1000, fix.Of(2), rate.Sub(1))
		checkLoss(t, 1000, fix.Of(2), rate.Add(1))
	}
}

// P3.2: the lesser one of the rate and of most.
func TestFair(t *testing.T) {
	const rate = fix.F(48246328655604)
	p := fix.Ratio(1, 100)
	for _, c := range []struct{ p, most, want fix.F }{
		{p, rate + 1, rate},
		{p, rate, rate},
		{p, rate - 1, rate - 1},
		{p, fix.Max, rate},
		{p, fix.Of(50), fix.Of(50)},
		{p, 0, 0},
		{0, fix.Of(50), fix.Of(50)},
		{0, fix.Max, fix.Max},
		{fix.Max, fix.Max, 1000},
		{fix.Max, 999, 999},
	} {
		if got := Fair(1000, fix.One, c.p, c.most); got != c.want {
			t.Errorf("Fair(1000, One, %d, %d) = %d, want %d", c.p, c.most, got, c.want)
		}
	}
	list := anyArguments(randomly)
	for i, c := range list {
		most := list[(i+1)%len(list)].other
		if got, want := Fair(c.size, c.rtt, c.other, most), min(wantRate(c.size, c.rtt, c.other), most); got != want {
			t.Fatalf("Fair(%d, %d, %d, %d) = %d, want %d", c.size, c.rtt, c.other, most, got, want)
		}
	}
}

// P1 of the whole, P3.1 and P3.2: any arguments at all.
func FuzzEqn(f *testing.F) {
	f.Add(uint32(1000), uint64(1<<32), uint64(1<<25), topWord)
	f.Add(uint32(0), uint64(0), uint64(0), uint64(0))
	f.Add(topSize, topWord, topWord, topWord)
	f.Add(topSize, uint64(1), uint64(1), uint64(1))
	f.Fuzz(func(t *testing.T, size uint32, trip, loss, most uint64) {
		rtt, p := fix.F(trip), fix.F(loss)
		want := wantRate(size, rtt, p)
		if got := Rate(size, rtt, p); got != want {
			t.Errorf("Rate(%d, %d, %d) = %d, want %d", size, rtt, p, got, want)
		}
		if got := Fair(size, rtt, p, fix.F(most)); got != min(want, fix.F(most)) {
			t.Errorf("Fair(%d, %d, %d, %d) = %d", size, rtt, p, most, got)
		}
		checkLoss(t, size, rtt, fix.F(most))
	})
}
