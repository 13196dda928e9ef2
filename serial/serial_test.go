package serial

import (
	"math"
	"math/big"
	"math/rand/v2"
	"testing"
)

const (
	half = 1 << 31
	turn = 1 << 32
)

// places are numbers anywhere on the way round, those about its seams among them.
func places() []uint32 {
	list := []uint32{0, 1, 2, 3, 1000, half/2 - 1, half / 2, half - 2, half - 1, half, half + 1, half + 2, half + half/2, turn - 1000, turn - 3, turn - 2, turn - 1}
	chance := rand.New(rand.NewPCG(5, 1))
	for range 40 {
		list = append(list, chance.Uint32())
	}
	return list
}

// left is what is left of a whole number by 2^32, from 0 on.
func left(n *big.Int) uint32 {
	return uint32(new(big.Int).Mod(n, big.NewInt(turn)).Uint64())
}

// wholeNext goes n steps in whole numbers.
func wholeNext(a uint32, n int) uint32 {
	sum := new(big.Int).Add(big.NewInt(int64(a)), big.NewInt(int64(n)))
	return left(sum)
}

// wholeSteps is in how many steps, from 0 to 2^32 - 1, a comes to be b.
func wholeSteps(a, b uint32) int {
	return int(left(new(big.Int).Sub(big.NewInt(int64(b)), big.NewInt(int64(a)))))
}

func wholeAhead(a, b uint32) bool {
	n := wholeSteps(a, b)
	return n >= 1 && n < half
}

func wholeGap(a, b uint32) int {
	if wholeAhead(a, b) {
		return wholeSteps(a, b)
	}
	if wholeAhead(b, a) {
		return -wholeSteps(b, a)
	}
	return 0
}

func wholeLater(a, b uint32) uint32 {
	if wholeAhead(a, b) {
		return b
	}
	return a
}

// wholeWide tries the numbers that end in a, from the least one on, in the turns about near.
func wholeWide(near int, a uint32) int {
	if near < 0 || near > 1<<40 {
		return 0
	}
	best, found := 0, false
	for k := near/turn - 2; k <= near/turn+2; k++ {
		n := k*turn + int(a)
		if !found || distance(n, near) < distance(best, near) {
			best, found = n, true
		}
	}
	return best
}

func distance(a, b int) int {
	if a < b {
		return b - a
	}
	return a - b
}

func checkPair(t testing.TB, a, b uint32) {
	t.Helper()
	if got, want := Ahead(a, b), wholeAhead(a, b); got != want {
		t.Errorf("Ahead(%d, %d): %t", a, b, got)
	}
	if got, want := Gap(a, b), wholeGap(a, b); got != want {
		t.Errorf("Gap(%d, %d): %d, not %d", a, b, got, want)
	}
	if got, want := Later(a, b), wholeLater(a, b); got != want {
		t.Errorf("Later(%d, %d): %d, not %d", a, b, got, want)
	}
}

func checkNext(t testing.TB, a uint32, n int) {
	t.Helper()
	got := Next(a, n)
	if want := wholeNext(a, n); got != want {
		t.Errorf("Next(%d, %d): %d, not %d", a, n, got, want)
	}
	// The least int has no opposite: n steps back are then told in two halves.
	if back := Next(Next(got, -(n/2)), -(n - n/2)); back != a {
		t.Errorf("%d steps on from %d and back: %d", n, a, back)
	}
	if there := Next(Next(a, -(n/2)), -(n - n/2)); Next(there, n) != a {
		t.Errorf("%d steps back from %d and on: %d", n, a, Next(there, n))
	}
}

func checkWide(t testing.TB, near int, a uint32) {
	t.Helper()
	got, want := Wide(near, a), wholeWide(near, a)
	if got != want {
		t.Errorf("Wide(%d, %d): %d, not %d", near, a, got, want)
	}
}

func TestExamples(t *testing.T) {
	if !Ahead(turn-1, 0) {
		t.Error("2^32 - 1 isn't ahead of 0")
	}
	if n := Gap(0, turn-1); n != -1 {
		t.Errorf("Gap(0, 2^32 - 1): %d", n)
	}
	if n := Wide(turn+5, turn-1); n != turn-1 {
		t.Errorf("Wide(2^32 + 5, 2^32 - 1): %d", n)
	}
}

// P5.1: Next goes on and back, around as often as n asks.
func TestNext(t *testing.T) {
	for _, c := range []struct {
		a    uint32
		n    int
		want uint32
	}{
		{7, 0, 7}, {7, 1, 8}, {7, -1, 6}, {0, -1, turn - 1}, {turn - 1, 1, 0}, {turn - 1, 0, turn - 1},
		{0, half, half}, {half, half, 0}, {0, -half, half}, {5, half + 1, half + 6},
		{7, turn - 1, 6}, {7, turn, 7}, {7, turn + 1, 8}, {7, -turn, 7}, {7, -turn - 1, 6}, {7, 5*turn + 3, 10},
		{0, math.MaxInt, turn - 1}, {1, math.MaxInt, 0}, {0, math.MinInt, 0}, {9, math.MinInt, 9}, {9, math.MinInt + 1, 10},
	} {
		if got := Next(c.a, c.n); got != c.want {
			t.Errorf("Next(%d, %d): %d, not %d", c.a, c.n, got, c.want)
		}
	}
}

func TestNextAgainstWholeNumbers(t *testing.T) {
	ways := []int{0, 1, 2, half - 1, half, half + 1, turn - 1, turn, turn + 1, 3*turn + 5, 1 << 40, 1<<62 + 9, math.MaxInt - 1, math.MaxInt, math.MinInt, math.MinInt + 1}
	chance := rand.New(rand.NewPCG(5, 2))
	for range 40 {
		ways = append(ways, int(chance.Uint64()))
	}
	for _, a := range places() {
		for _, n := range ways {
			checkNext(t, a, n)
			checkNext(t, a, -n)
		}
	}
}

// P5.1: which of two is ahead, at each of the distances at which that changes.
func TestApart(t *testing.T) {
	for _, a := range places() {
		for _, c := range []struct {
			apart    int
			gap      int
			later    int
			backward int
		}{
			{0, 0, 0, 0},
			{1, 1, 1, -1},
			{half - 1, half - 1, half - 1, -(half - 1)},
			{half, 0, 0, 0},
			{half + 1, -(half - 1), 0, half - 1},
			{turn - 1, -1, 0, 1},
		} {
			b := uint32((int(a) + c.apart) % turn)
			if Ahead(a, b) != (c.gap > 0) || Ahead(b, a) != (c.gap < 0) {
				t.Errorf("Ahead of %d and %d: %t, %t", a, b, Ahead(a, b), Ahead(b, a))
			}
			if Gap(a, b) != c.gap || Gap(b, a) != c.backward {
				t.Errorf("Gap of %d and %d: %d, %d", a, b, Gap(a, b), Gap(b, a))
			}
			if want := uint32((int(a) + c.later) % turn); Later(a, b) != want {
				t.Errorf("Later(%d, %d): %d, not %d", a, b, Later(a, b), want)
			}
			checkPair(t, b, a)
		}
	}
}

// P5.1: of two the later one is told in either order, but of two that are 2^31 apart the first one.
func TestLater(t *testing.T) {
	for _, c := range []struct{ a, b, want uint32 }{
		{4, 4, 4}, {turn - 1, turn - 1, turn - 1}, {3, 4, 4}, {4, 3, 4}, {turn - 1, 0, 0}, {0, turn - 1, 0}, {turn - 1, 3, 3}, {3, turn - 1, 3},
		{0, half, 0}, {half, 0, half}, {5, half + 5, 5}, {half + 5, 5, half + 5}, {turn - 1, half - 1, turn - 1}, {half - 1, turn - 1, half - 1},
		{0, half - 1, half - 1}, {half - 1, 0, half - 1}, {0, half + 1, 0}, {half + 1, 0, 0},
	} {
		if got := Later(c.a, c.b); got != c.want {
			t.Errorf("Later(%d, %d): %d, not %d", c.a, c.b, got, c.want)
		}
	}
}

func TestPairsAgainstWholeNumbers(t *testing.T) {
	list := places()
	for _, a := range list {
		for _, b := range list {
			checkPair(t, a, b)
		}
		for apart := -3; apart <= 3; apart++ {
			for _, seam := range []int{0, half / 2, half, half + half/2} {
				b := wholeNext(a, seam+apart)
				checkPair(t, a, b)
				checkPair(t, b, a)
			}
		}
	}
}

// P5.1: a number's Gap leads from the one to the other one, but where none is told.
func TestGapLeadsThere(t *testing.T) {
	list := places()
	for _, a := range list {
		for _, b := range list {
			if wholeSteps(a, b) != half && Next(a, Gap(a, b)) != b {
				t.Errorf("Gap(%d, %d): %d doesn't lead there", a, b, Gap(a, b))
			}
		}
	}
}

// P5.2: the nearest one, and of two the lesser one.
func TestWide(t *testing.T) {
	const most = 1 << 40
	for _, c := range []struct {
		near int
		a    uint32
		want int
	}{
		{0, 0, 0}, {0, 1, 1}, {0, turn - 1, -1}, {0, half - 1, half - 1}, {0, half, -half}, {0, half + 1, -(half - 1)},
		{1, half, half}, {1, half + 1, -(half - 1)}, {1, half + 2, -(half - 2)}, {half - 1, turn - 1, -1}, {half - 1, turn - 2, turn - 2}, {half, turn - 1, turn - 1},
		{half, 0, 0}, {half - 1, 0, 0}, {half + 1, 0, turn}, {half, half, half},
		{turn, half, half}, {turn, half - 1, turn + half - 1}, {turn, half + 1, half + 1}, {turn - 2, 3, turn + 3}, {turn + 5, turn - 1, turn - 1}, {turn, 0, turn},
		{turn + half, 0, turn}, {turn + half + 1, 0, 2 * turn}, {turn + half - 1, 0, turn},
		{most, 0, most}, {most, 1, most + 1}, {most, half - 1, most + half - 1}, {most, half, most - half}, {most, turn - 1, most - 1}, {most - 1, 0, most},
		{most + 1, 0, 0}, {most + 1, 5, 0}, {most + 1, turn - 1, 0}, {most + turn, 7, 0}, {math.MaxInt, turn - 1, 0}, {math.MaxInt, 9, 0},
		{-1, 0, 0}, {-1, 5, 0}, {-1, turn - 1, 0}, {-half, half, 0}, {-turn, 9, 0}, {math.MinInt, 0, 0}, {math.MinInt, 9, 0},
	} {
		if got := Wide(c.near, c.a); got != c.want {
			t.Errorf("Wide(%d, %d): %d, not %d", c.near, c.a, got, c.want)
		}
	}
}

func TestWideAgainstWholeNumbers(t *testing.T) {
	var nears []int
	for _, k := range []int{-2, -1, 0, 1, 2, 3, 4, 5, 255, 256, 510, 511, 512, 513, 514} {
		for off := -3; off <= 3; off++ {
			nears = append(nears, k*half+off)
		}
	}
	nears = append(nears, math.MinInt, math.MinInt+1, math.MaxInt-1, math.MaxInt)
	chance := rand.New(rand.NewPCG(5, 3))
	for range 60 {
		nears = append(nears, int(chance.Int64N(1<<40+1)), int(chance.Uint64()))
	}
	for _, near := range nears {
		for _, a := range places() {
			checkWide(t, near, a)
		}
		// Those about the two that are equally near.
		for off := -3; off <= 3; off++ {
			checkWide(t, near, wholeNext(uint32(near), half+off))
			checkWide(t, near, wholeNext(uint32(near), off))
		}
	}
}

// P1: any arguments at all are answered.
func FuzzSerial(f *testing.F) {
	f.Add(uint32(0), uint32(half), 0)
	f.Add(uint32(turn-1), uint32(0), math.MinInt)
	f.Add(uint32(5), uint32(half+5), 1<<40)
	f.Fuzz(func(t *testing.T, a, b uint32, n int) {
		checkPair(t, a, b)
		checkNext(t, a, n)
		checkWide(t, n, a)
		checkWide(t, n&(1<<40-1), b)
	})
}
