package logs

import (
	"math"
	"math/big"
	"math/rand/v2"
	"slices"
	"sync"
	"testing"

	"terrace/fix"
)

const randomly = 20000

// chapterTable is written out once more, so that a slip in the program's own table is seen.
func chapterTable() [17]int {
	return [17]int{0, 5732, 11136, 16248, 21098, 25711, 30109, 34312, 38336, 42196, 45904, 49472, 52911, 56229, 59434, 62534, 65536}
}

// numbers are, rising, each power of 2 with its sixteen steps and their neighbours, and some that lie anywhere.
func numbers() []fix.F {
	list := []fix.F{1, 2, 3, fix.One - 1, fix.One, fix.One + 1, fix.Max - 1, fix.Max}
	for place := range 64 {
		for sixteenth := uint64(16); sixteenth < 32; sixteenth++ {
			at := sixteenth << 59 >> (63 - place)
			list = append(list, fix.F(at-1), fix.F(at), fix.F(at+1))
		}
	}
	source := rand.New(rand.NewPCG(3, 4))
	for range randomly {
		list = append(list, fix.F(source.Uint64()>>source.IntN(64)))
	}
	list = slices.DeleteFunc(list, func(a fix.F) bool { return a == 0 })
	slices.Sort(list)
	return slices.Compact(list)
}

// wantLog is the chapter's sentence by long numbers: the sum over 2^28, rounded down as a whole.
func wantLog(a fix.F) int {
	bits := new(big.Int).SetUint64(uint64(a))
	e := bits.BitLen() - 1
	m := new(big.Int).Lsh(bits, uint(63-e))
	i := 0
	for k := range 4 {
		i = 2*i + int(m.Bit(62-k))
	}
	r := int64(0)
	for k := range 28 {
		r = 2*r + int64(m.Bit(58-k))
	}
	table := chapterTable()
	sum := big.NewInt(int64((e-32)*65536 + table[i]))
	sum.Lsh(sum, 28)
	sum.Add(sum, new(big.Int).Mul(big.NewInt(int64(table[i+1]-table[i])), big.NewInt(r)))
	return int(floorBy(sum, 1<<28))
}

func floorBy(n *big.Int, by int64) int64 {
	return new(big.Int).Div(n, big.NewInt(by)).Int64()
}

// wantNeg: minus the logarithm, in 65536ths, with 32 bits behind the point.
func wantNeg(a fix.F) fix.F {
	if log := wantLog(a); log < 0 {
		return fix.F(uint64(-log) * 65536)
	}
	return 0
}

func wantLn(a fix.F) int {
	product := new(big.Int).Mul(big.NewInt(int64(wantLog(a))), big.NewInt(45426))
	return int(floorBy(product, 65536))
}

// P2.1: the chapter's examples and its edges, written out.
func TestNamedLogarithms(t *testing.T) {
	for _, c := range []struct {
		a       fix.F
		log, ln int
		neg     fix.F
	}{
		{1, -2097152, -1453632, fix.Of(32)},
		{2, -2031616, -1408206, fix.Of(31)},
		{3, -2031616 + 38336, -1381634, fix.Of(31).Sub(fix.Ratio(38336, 65536))},
		{fix.Ratio(1, 4), -131072, -90852, fix.Of(2)},
		{fix.Ratio(1, 2), -65536, -45426, fix.One},
		{fix.One - 2, -1, -1, 65536},
		{fix.One - 1, -1, -1, 65536},
		{fix.One, 0, 0, 0},
		{fix.One + 1, 0, 0, 0},
		{fix.One + 46831, 0, 0, 0},
		{fix.One + 46832, 1, 0, 0},
		{fix.Ratio(17, 16), 5732, 3973, 0},
		{fix.Ratio(33, 32), 2866, 1986, 0},
		{fix.Ratio(3, 2), 38336, 26572, 0},
		{fix.Of(2) - 1, 65535, 45425, 0},
		{fix.Of(2), 65536, 45426, 0},
		{fix.Of(8), 196608, 136278, 0},
		{1 << 63, 2031616, 1408206, 0},
		{fix.Max, 2097151, 1453631, 0},
	} {
		if log, ok := Log(c.a); log != c.log || !ok {
			t.Errorf("Log of %d: %d, %v, not %d", c.a, log, ok, c.log)
		}
		if ln, ok := Ln(c.a); ln != c.ln || !ok {
			t.Errorf("Ln of %d: %d, %v, not %d", c.a, ln, ok, c.ln)
		}
		if neg := Neg(c.a); neg != c.neg {
			t.Errorf("Neg of %d: %d, not %d", c.a, neg, c.neg)
		}
	}
}

// P2.1: 0 has no logarithm, and its other sign is above all numbers.
func TestNoneOfNothing(t *testing.T) {
	if log, ok := Log(0); log != 0 || ok {
		t.Errorf("Log of 0: %d, %v", log, ok)
	}
	if ln, ok := Ln(0); ln != 0 || ok {
		t.Errorf("Ln of 0: %d, %v", ln, ok)
	}
	if neg := Neg(0); neg != fix.Max {
		t.Errorf("Neg of 0: %d", neg)
	}
}

// P2.1: at each power's sixteen steps, beside them and anywhere.
func TestLogarithmsEverywhere(t *testing.T) {
	for _, a := range numbers() {
		if log, ok := Log(a); log != wantLog(a) || !ok {
			t.Fatalf("Log of %d: %d, %v, not %d", a, log, ok, wantLog(a))
		}
		if ln, ok := Ln(a); ln != wantLn(a) || !ok {
			t.Fatalf("Ln of %d: %d, %v, not %d", a, ln, ok, wantLn(a))
		}
		if neg := Neg(a); neg != wantNeg(a) {
			t.Fatalf("Neg of %d: %d, not %d", a, neg, wantNeg(a))
		}
	}
}

// P2.1: what the table says is near to the true logarithms, so that no bit of a number is taken for another.
func TestLogarithmsAreNear(t *testing.T) {
	const near = 50
	for _, a := range numbers() {
		log, _ := Log(a)
		if off := float64(log) - 65536*(math.Log2(float64(a))-32); math.Abs(off) > near {
			t.Fatalf("Log of %d: %d, off by %f", a, log, off)
		}
		ln, _ := Ln(a)
		if off := float64(ln) - 65536*(math.Log(float64(a))-32*math.Ln2); math.Abs(off) > near {
			t.Fatalf("Ln of %d: %d, off by %f", a, ln, off)
		}
	}
}

// P2.1: each of the sixteen steps is met on the spot, in every power that has bits for it.
func TestStepsAreMet(t *testing.T) {
	for place := 4; place < 64; place++ {
		for i, step := range chapterTable() {
			if place == 63 && i == 16 {
				continue // twice the power is none there
			}
			a := fix.F(uint64(16+i) << (place - 4))
			if log, ok := Log(a); log != (place-32)*65536+step || !ok {
				t.Errorf("Log of %d: %d, %v, not %d", a, log, ok, (place-32)*65536+step)
			}
		}
	}
}

// P2.1: the bits behind the step's 32 leading ones don't count, the last of these does.
func TestBitsBehindTheRest(t *testing.T) {
	const lowest = 1<<63 | 0b1111<<59
	for _, rest := range []uint64{0, 1, 1 << 16, 1<<27 + 1, 1<<28 - 1} {
		a := fix.F(lowest | rest<<31)
		low, _ := Log(a)
		high, _ := Log(a + 1<<31 - 1)
		if low != high || low != wantLog(a) {
			t.Errorf("Log of %d: %d, with all bits behind it %d, not %d", a, low, high, wantLog(a))
		}
	}
	// 3002 parts of one lie in the last step: the first of them begins at this rest.
	first := uint64(1<<28/3002 + 1)
	at, _ := Log(fix.F(lowest | first<<31))
	ahead, _ := Log(fix.F(lowest | (first-1)<<31))
	if at != 31*65536+62535 || ahead != 31*65536+62534 {
		t.Errorf("the first part of the last step: %d behind %d", at, ahead)
	}
}

// P2.2: of a greater one it isn't less.
func TestLogRises(t *testing.T) {
	least, leastLn := math.MinInt, math.MinInt
	for _, a := range numbers() {
		log, _ := Log(a)
		ln, _ := Ln(a)
		if log < least || ln < leastLn {
			t.Fatalf("at %d: Log %d behind %d, Ln %d behind %d", a, log, least, ln, leastLn)
		}
		least, leastLn = log, ln
	}
}

// P2.2: of twice it, if that is a number, 65536 more; if it is none, its own is the last power's.
func TestLogOfTwice(t *testing.T) {
	for _, a := range numbers() {
		log, _ := Log(a)
		if a > fix.Max/2 {
			if log < 31*65536 || log >= 32*65536 {
				t.Fatalf("Log of %d: %d", a, log)
			}
			continue
		}
		if twice, ok := Log(2 * a); twice != log+65536 || !ok {
			t.Fatalf("Log of %d: %d, of twice it: %d, %v", a, log, twice, ok)
		}
	}
}

// P2.2: the table, which no one who has it can change for others.
func TestTable(t *testing.T) {
	shelf := New()
	for _, tell := range []func() [17]int{Table, shelf.Table, New().Table} {
		table := tell()
		if table != chapterTable() {
			t.Errorf("Table: %v", table)
		}
		table[3] = -1
		if tell() != chapterTable() {
			t.Errorf("Table behind a change: %v", tell())
		}
	}
}

// P2.2: a shelf makes its table by the first call, and no other shelf's.
func TestShelfMakesItsTableOnce(t *testing.T) {
	shelf, other := New(), New()
	if shelf == nil || other == nil || shelf == other {
		t.Fatal("New: no shelf of its own")
	}
	Table()
	Log(fix.Of(3))
	if shelf.Made() != 0 || shelf.Made() != 0 {
		t.Errorf("Made ahead of the first call: %d", shelf.Made())
	}
	for call := range 5 {
		if shelf.Table() != chapterTable() || shelf.Made() != 1 {
			t.Errorf("call %d: %v, made %d", call, shelf.Table(), shelf.Made())
		}
	}
	if other.Made() != 0 {
		t.Errorf("Made of another shelf: %d", other.Made())
	}
}

// P2.2: many ask one shelf at one time; each has the table, and finds it made once.
func TestShelfOfMany(t *testing.T) {
	const askers, calls = 32, 50
	for range 20 {
		shelf := New()
		begin := make(chan struct{})
		var all sync.WaitGroup
		for range askers {
			all.Go(func() {
				<-begin
				if made := shelf.Made(); made != 0 && made != 1 {
					t.Errorf("Made meanwhile: %d", made)
				}
				for range calls {
					if table := shelf.Table(); table != chapterTable() {
						t.Errorf("Table: %v", table)
					}
					if made := shelf.Made(); made != 1 {
						t.Errorf("Made: %d", made)
					}
				}
			})
		}
		close(begin)
		all.Wait()
		if shelf.Made() != 1 {
			t.Errorf("Made behind all: %d", shelf.Made())
		}
	}
}

// The whole's P1: any arguments at all.
func FuzzAnyNumber(f *testing.F) {
	for _, a := range []uint64{0, 1, 1<<32 - 1, 1 << 32, 1<<64 - 1} {
		f.Add(a)
	}
	f.Fuzz(func(t *testing.T, bits uint64) {
		a := fix.F(bits)
		log, ok := Log(a)
		ln, okLn := Ln(a)
		neg := Neg(a)
		if a == 0 {
			if log != 0 || ok || ln != 0 || okLn || neg != fix.Max {
				t.Errorf("of 0: %d, %v, %d, %v, %d", log, ok, ln, okLn, neg)
			}
			return
		}
		if log != wantLog(a) || !ok || ln != wantLn(a) || !okLn || neg != wantNeg(a) {
			t.Errorf("of %d: %d, %v, %d, %v, %d", a, log, ok, ln, okLn, neg)
		}
	})
}
