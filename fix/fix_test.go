package fix

import (
	"math"
	"math/big"
	"math/rand/v2"
	"testing"
)

const (
	topWord  = uint64(1<<64 - 1)
	randomly = 300
)

// words are the edges of a word, of its half and of a root, and some that lie anywhere.
func words() []uint64 {
	list := []uint64{0, 1, 2, 3, 5, 7, 10, 100, topWord, topWord - 1, topWord - 2}
	for place := 2; place < 64; place++ {
		list = append(list, 1<<place-1, 1<<place, 1<<place+1)
	}
	source := rand.New(rand.NewPCG(1, 2))
	for range randomly {
		list = append(list, source.Uint64()>>source.IntN(64))
	}
	return list
}

func bigOf(n uint64) *big.Int { return new(big.Int).SetUint64(n) }

// capped: n as a word; the greatest or the least word, where there is none.
func capped(n *big.Int) uint64 {
	if n.Sign() < 0 {
		return 0
	}
	if !n.IsUint64() {
		return topWord
	}
	return n.Uint64()
}

func wantQuotient(a, b uint64) uint64 {
	if b == 0 {
		return topWord
	}
	shifted := new(big.Int).Lsh(bigOf(a), 32)
	return capped(shifted.Quo(shifted, bigOf(b)))
}

func wantProduct(a, b uint64) uint64 {
	product := new(big.Int).Mul(bigOf(a), bigOf(b))
	return capped(product.Rsh(product, 32))
}

type pairCase struct {
	name      string
	a, b      uint64
	got, want uint64
}

func checkPairs(t *testing.T, cases []pairCase) {
	t.Helper()
	for _, c := range cases {
		if c.got != c.want {
			t.Errorf("%s of %d and %d: %d, not %d", c.name, c.a, c.b, c.got, c.want)
		}
	}
}

func TestConstants(t *testing.T) {
	if uint64(One) != 4294967296 || uint64(Max) != 18446744073709551615 {
		t.Errorf("One %d, Max %d", One, Max)
	}
}

// P1.1: the chapter's examples and its edges, written out.
func TestNamedNumbers(t *testing.T) {
	half := Ratio(1, 2)
	for i, c := range []struct{ got, want F }{
		{Of(0), 0},
		{Of(1), One},
		{Of(math.MaxUint32), Max - (One - 1)},
		{half, 1 << 31},
		{Ratio(2, 3), 2863311530},
		{Ratio(0, 7), 0},
		{Ratio(0, 0), Max},
		{Ratio(7, 0), Max},
		{Ratio(1<<32-1, 1), Of(math.MaxUint32)},
		{Ratio(1<<32, 1), Max},
		{Ratio(topWord, 1<<32), Max},
		{Ratio(topWord-1, 1<<32), Max - 1},
		{Ratio(topWord, 1<<32-1), Max},
		{Ratio(topWord, topWord), One},
		{Ratio(1, topWord), 0},
		{Max.Add(0), Max},
		{Max.Add(1), Max},
		{Max.Add(Max), Max},
		{(Max - 1).Add(1), Max},
		{(Max - 2).Add(1), Max - 1},
		{F(1 << 63).Add(1 << 63), Max},
		{F(0).Sub(1), 0},
		{F(0).Sub(Max), 0},
		{One.Sub(One), 0},
		{One.Sub(One - 1), 1},
		{Max.Sub(Max - 1), 1},
		{F(1).Mul(One), 1},
		{F(1).Mul(One - 1), 0},
		{half.Mul(half), 1 << 30},
		{Max.Mul(One), Max},
		{Max.Mul(One - 1), Max - One},
		{Max.Mul(One + 1), Max},
		{Max.Mul(Max), Max},
		{Of(1 << 16).Mul(Of(1 << 16)), Max},
		{Of(1 << 16).Mul(Of(1<<16 - 1)), Of(1<<32 - 1<<16)},
		{One.Div(0), Max},
		{F(0).Div(0), Max},
		{F(0).Div(1), 0},
		{Max.Div(Max), One},
		{Max.Div(One), Max},
		{Max.Div(One + 1), Max - (One - 1)},
		{Max.Div(One + 2), Max - 2*One + 3},
		{Of(1 << 31).Div(1 << 31), Max},
		{Of(1 << 31).Div(1<<31 + 1), 1<<64 - 1<<33 + 3},
		{F(1).Div(Max), 0},
		{Of(7).Div(Of(2)), 7 << 31},
	} {
		if c.got != c.want {
			t.Errorf("case %d: %d, not %d", i, c.got, c.want)
		}
	}
}

// P1.1, P1.2: every pair against numbers of any length.
func TestPairsAgainstLongNumbers(t *testing.T) {
	list := words()
	for _, a := range list {
		for _, b := range list {
			x, y := F(a), F(b)
			checkPairs(t, []pairCase{
				{"Ratio", a, b, uint64(Ratio(a, b)), wantQuotient(a, b)},
				{"Add", a, b, uint64(x.Add(y)), capped(new(big.Int).Add(bigOf(a), bigOf(b)))},
				{"Sub", a, b, uint64(x.Sub(y)), capped(new(big.Int).Sub(bigOf(a), bigOf(b)))},
				{"Mul", a, b, uint64(x.Mul(y)), wantProduct(a, b)},
				{"Div", a, b, uint64(x.Div(y)), wantQuotient(a, b)},
				{"Times", a, b, x.Times(b), wantProduct(a, b)},
			})
		}
	}
}

// P1.1, P1.2: quotients and products that lie just within and just without a word.
func TestJustTooGreat(t *testing.T) {
	for _, a := range words() {
		high := a >> 32
		if got := Ratio(a, high); got != Max {
			t.Errorf("Ratio(%d, %d): %d", a, high, got)
		}
		if got, want := uint64(Ratio(a, high+1)), wantQuotient(a, high+1); got != want {
			t.Errorf("Ratio(%d, %d): %d, not %d", a, high+1, got, want)
		}
		if a < 1<<32 {
			continue
		}
		limit := new(big.Int).Lsh(big.NewInt(1), 96)
		edge := capped(limit.Quo(limit, bigOf(a)))
		for _, n := range []uint64{edge - 1, edge, edge + 1} {
			if got, want := F(a).Times(n), wantProduct(a, n); got != want {
				t.Errorf("%d times %d: %d, not %d", a, n, got, want)
			}
		}
	}
}

// P1.1: Of, and P1.2: Whole is its way back, whatever lies behind the point.
func TestOfAndWhole(t *testing.T) {
	for _, n := range words() {
		whole := uint32(n)
		if got := Of(whole); uint64(got) != uint64(whole)*4294967296 {
			t.Errorf("Of(%d): %d", whole, got)
		}
		if got := Of(whole).Whole(); got != whole {
			t.Errorf("Of(%d).Whole(): %d", whole, got)
		}
		if got := Of(whole).Add(One - 1).Whole(); got != whole {
			t.Errorf("just below %d and one: %d", whole, got)
		}
		if got, want := F(n).Whole(), uint32(n/4294967296); got != want {
			t.Errorf("F(%d).Whole(): %d, not %d", n, got, want)
		}
	}
}

func wantHalf(a F, k int) F {
	if k > 63 {
		return 0
	}
	for ; k > 0; k-- {
		a /= 2
	}
	return a
}

// P1.2: Half, at every k from below 1 to above 63.
func TestHalf(t *testing.T) {
	halvings := []int{math.MinInt, math.MinInt32, -64, math.MaxInt32, math.MaxInt, 1 << 32, 1<<32 + 1}
	for k := -3; k < 130; k++ {
		halvings = append(halvings, k)
	}
	for _, n := range words() {
		for _, k := range halvings {
			if got, want := F(n).Half(k), wantHalf(F(n), k); got != want {
				t.Errorf("F(%d).Half(%d): %d, not %d", n, k, got, want)
			}
		}
	}
	if got := Max.Half(63); got != 1 {
		t.Errorf("Max.Half(63): %d", got)
	}
	if got := Max.Half(64); got != 0 {
		t.Errorf("Max.Half(64): %d", got)
	}
}

// P1.2: Times, where it is just 2^64 - 1, and more.
func TestTimes(t *testing.T) {
	for i, c := range []struct{ got, want uint64 }{
		{Ratio(5, 2).Times(7), 17},
		{One.Times(topWord), topWord},
		{One.Times(topWord - 1), topWord - 1},
		{(One - 1).Times(topWord), topWord - 1<<32},
		{(One + 1).Times(topWord), topWord},
		{Of(2).Times(1<<63 - 1), topWord - 1},
		{Of(2).Times(1 << 63), topWord},
		{Max.Times(1 << 32), topWord},
		{Max.Times(1<<32 - 1), topWord - 1<<32},
		{Max.Times(1<<32 + 1), topWord},
		{Max.Times(topWord), topWord},
		{Max.Times(1), math.MaxUint32},
		{Max.Times(0), 0},
		{F(0).Times(topWord), 0},
		{F(1).Times(1<<32 - 1), 0},
		{F(1).Times(1 << 32), 1},
	} {
		if c.got != c.want {
			t.Errorf("case %d: %d, not %d", i, c.got, c.want)
		}
	}
}

// squareWords: x times x, at full length.
func squareWords(x uint64) *big.Int { return new(big.Int).Mul(bigOf(x), bigOf(x)) }

func checkRoot(t *testing.T, a uint64) {
	t.Helper()
	root := uint64(F(a).Root())
	full := new(big.Int).Lsh(bigOf(a), 32)
	if squareWords(root).Cmp(full) > 0 {
		t.Errorf("F(%d).Root(): %d, whose square is above it", a, root)
	}
	if squareWords(root+1).Cmp(full) <= 0 {
		t.Errorf("F(%d).Root(): %d, but %d would do", a, root, root+1)
	}
}

// P1.3: the root's exact square isn't above, the next one's is.
func TestRoot(t *testing.T) {
	for _, a := range words() {
		checkRoot(t, a)
	}
	for i, c := range []struct{ got, want F }{
		{F(0).Root(), 0},
		{F(1).Root(), 1 << 16},
		{F(2).Root(), 92681},
		{One.Root(), One},
		{(One - 1).Root(), One - 1},
		{(One + 1).Root(), One},
		{Of(2).Root(), 6074000999},
		{Ratio(1, 4).Root(), 1 << 31},
		{Max.Root(), 1<<48 - 1},
	} {
		if c.got != c.want {
			t.Errorf("case %d: %d, not %d", i, c.got, c.want)
		}
	}
}

// P1.3: squares that are exact, and the numbers just below and just above them.
func TestRootOfSquares(t *testing.T) {
	for _, n := range words() {
		root := n >> 16
		square := squareWords(root)
		low := new(big.Int).And(square, big.NewInt(1<<32-1))
		a := new(big.Int).Rsh(square, 32).Uint64()
		if low.Sign() == 0 {
			if got := F(a).Root(); uint64(got) != root {
				t.Errorf("F(%d).Root(): %d, not %d", a, got, root)
			}
		}
		checkRoot(t, a)
		checkRoot(t, a+1)
		if a > 0 {
			checkRoot(t, a-1)
		}
	}
	for whole := range uint32(1 << 16) {
		a := Of(whole * whole)
		if got := a.Root(); got != Of(whole) {
			t.Fatalf("the root of %d squared: %d", whole, got)
		}
		if whole > 0 && a.Sub(1).Root() >= Of(whole) {
			t.Fatalf("the root of just below %d squared: %d", whole, a.Sub(1).Root())
		}
	}
}
