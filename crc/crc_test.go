package crc

import (
	"bytes"
	"hash/crc32"
	"math"
	"math/big"
	"math/rand/v2"
	"sync"
	"testing"
)

// register is the chapter's one, bit by bit, the lowest one first.
type register [32]bool

func registerOf(n uint32) register {
	var r register
	for i := range r {
		r[i] = n&(1<<i) != 0
	}
	return r
}

func (r register) number() uint32 {
	var n uint32
	for i, set := range r {
		if set {
			n |= 1 << i
		}
	}
	return n
}

func (r register) turned(where register) register {
	for i, set := range where {
		if set {
			r[i] = !r[i]
		}
	}
	return r
}

func (r register) take(bit bool) register {
	var down register
	for i := range len(r) - 1 {
		down[i] = r[i+1]
	}
	if r[0] != bit {
		return down.turned(registerOf(0xedb88320))
	}
	return down
}

func (r register) takeAll(b []byte) register {
	for _, x := range b {
		for i := range 8 {
			r = r.take(x&(1<<i) != 0)
		}
	}
	return r
}

var allSet = registerOf(math.MaxUint32)

// wordsSum is the sum as the chapter's words say it.
func wordsSum(b []byte) uint32 {
	return allSet.takeAll(b).turned(allSet).number()
}

// wordsMore goes on from a sum, whose last step is taken back first.
func wordsMore(sum uint32, b []byte) uint32 {
	return registerOf(sum).turned(allSet).takeAll(b).turned(allSet).number()
}

func wordsSeal(b []byte) []byte {
	sum := wordsSum(b)
	sealed := append([]byte{}, b...)
	return append(sealed, byte(sum), byte(sum>>8), byte(sum>>16), byte(sum>>24))
}

// wordsOpen seals all but the last four bytes, and sees if that is what it was.
func wordsOpen(b []byte) ([]byte, bool) {
	if len(b) < 4 {
		return nil, false
	}
	if body := b[:len(b)-4]; bytes.Equal(wordsSeal(body), b) {
		return body, true
	}
	return nil, false
}

// wordsTurn lays the bits out one by one, and finds the place in whole numbers.
func wordsTurn(b []byte, bit int) []byte {
	var bits []bool
	for _, x := range b {
		for i := range 8 {
			bits = append(bits, x&(1<<i) != 0)
		}
	}
	if len(bits) > 0 {
		place := new(big.Int).Mod(big.NewInt(int64(bit)), big.NewInt(int64(len(bits)))).Int64()
		bits[place] = !bits[place]
	}
	turned := make([]byte, len(b))
	for i, set := range bits {
		if set {
			turned[i/8] |= 1 << (i % 8)
		}
	}
	return turned
}

// samples are bytes of several lengths: the same ones throughout, and any.
func samples() [][]byte {
	chance := rand.New(rand.NewPCG(6, 1))
	list := [][]byte{nil, {}, []byte("a"), []byte("123456789")}
	for _, n := range []int{1, 2, 3, 4, 5, 7, 8, 9, 16, 31, 64, 316, 320} {
		list = append(list, make([]byte, n), bytes.Repeat([]byte{0xff}, n), anyBytes(chance, n), anyBytes(chance, n))
	}
	return list
}

func anyBytes(chance *rand.Rand, n int) []byte {
	b := make([]byte, n)
	for i := range b {
		b[i] = byte(chance.Uint32())
	}
	return b
}

// bitNumbers are those about the edges of how many bits there are, and about those of an int.
func bitNumbers(bits int) []int {
	list := []int{0, 1, 7, 8, 9, math.MaxInt, math.MaxInt - 1, math.MaxInt - 7, math.MaxInt - 8, math.MinInt, math.MinInt + 1, math.MinInt + 7, math.MinInt + 8}
	for off := -9; off <= 9; off++ {
		list = append(list, off, bits+off, -bits+off, 2*bits+off, 1000*bits+off, -1000*bits+off)
	}
	return list
}

func checkSum(t testing.TB, b []byte) {
	t.Helper()
	got := Sum(b)
	if want := wordsSum(b); got != want {
		t.Errorf("Sum(%x): %08x, not %08x", b, got, want)
	}
	if want := crc32.ChecksumIEEE(b); got != want {
		t.Errorf("Sum(%x): %08x, and the library's %08x", b, got, want)
	}
}

func checkMore(t testing.TB, sum uint32, b []byte) {
	t.Helper()
	if got, want := More(sum, b), wordsMore(sum, b); got != want {
		t.Errorf("More(%08x, %x): %08x, not %08x", sum, b, got, want)
	}
}

func checkSeal(t testing.TB, b []byte) {
	t.Helper()
	sealed := Seal(b)
	if want := wordsSeal(b); !bytes.Equal(sealed, want) {
		t.Errorf("Seal(%x): %x, not %x", b, sealed, want)
	}
	if back, ok := Open(sealed); !ok || !bytes.Equal(back, b) {
		t.Errorf("Open of Seal(%x): %x, %t", b, back, ok)
	}
}

func checkOpen(t testing.TB, b []byte) {
	t.Helper()
	got, ok := Open(b)
	want, wantOK := wordsOpen(b)
	if ok != wantOK || !bytes.Equal(got, want) {
		t.Errorf("Open(%x): %x, %t, not %x, %t", b, got, ok, want, wantOK)
	}
}

// checkShut is for bytes that must not open.
func checkShut(t testing.TB, b []byte) {
	t.Helper()
	if got, ok := Open(b); ok || len(got) != 0 {
		t.Errorf("Open(%x): %x, %t", b, got, ok)
	}
}

func checkTurn(t testing.TB, b []byte, bit int) {
	t.Helper()
	got := Turn(b, bit)
	if want := wordsTurn(b, bit); !bytes.Equal(got, want) {
		t.Errorf("Turn(%x, %d): %x, not %x", b, bit, got, want)
	}
	if twice := Turn(got, bit); !bytes.Equal(twice, b) {
		t.Errorf("Turn(%x, %d) twice: %x", b, bit, twice)
	}
}

func TestExample(t *testing.T) {
	if got := Sum([]byte("123456789")); got != 0xcbf43926 {
		t.Errorf("Sum: %08x", got)
	}
}

// P6.1: sums of nothing, of each byte, and of more of them.
func TestSum(t *testing.T) {
	for _, c := range []struct {
		text string
		want uint32
	}{
		{"", 0}, {"\x00", 0xd202ef8d}, {"\xff", 0xff000000}, {"a", 0xe8b7be43}, {"abc", 0x352441c2},
		{"\x00\x00\x00\x00", 0x2144df1c}, {"\xff\xff\xff\xff", 0xffffffff}, {"The quick brown fox jumps over the lazy dog", 0x414fa339},
	} {
		if got := Sum([]byte(c.text)); got != c.want {
			t.Errorf("Sum(%q): %08x, not %08x", c.text, got, c.want)
		}
	}
	if Sum(nil) != 0 || Sum([]byte{}) != 0 {
		t.Errorf("Sum of nothing: %08x, %08x", Sum(nil), Sum([]byte{}))
	}
	for x := range 256 {
		checkSum(t, []byte{byte(x)})
		checkSum(t, []byte{0, byte(x)})
		checkSum(t, []byte{byte(x), 0})
	}
	for _, b := range samples() {
		checkSum(t, b)
	}
}

// P6.1: bytes cut anywhere, an empty part too, have the sum that they have whole.
func TestMoreOfParts(t *testing.T) {
	for _, b := range samples() {
		want := wordsSum(b)
		for cut := range len(b) + 1 {
			if got := More(Sum(b[:cut]), b[cut:]); got != want {
				t.Errorf("More of %x, cut at %d: %08x, not %08x", b, cut, got, want)
			}
			if half := cut / 2; More(More(Sum(b[:half]), b[half:cut]), b[cut:]) != want {
				t.Errorf("More of %x, cut at %d and %d", b, half, cut)
			}
		}
		one := Sum(nil)
		for i := range b {
			one = More(one, b[i:i+1])
		}
		if one != want {
			t.Errorf("More of %x, byte by byte: %08x, not %08x", b, one, want)
		}
	}
}

// P6.1: each number is the sum of some bytes, so More goes on from any.
func TestMoreFromAnySum(t *testing.T) {
	sums := []uint32{0, 1, 0x7fffffff, 0x80000000, 0xedb88320, 0xfffffffe, 0xffffffff}
	chance := rand.New(rand.NewPCG(6, 2))
	for range 20 {
		sums = append(sums, chance.Uint32())
	}
	for _, sum := range sums {
		if More(sum, nil) != sum || More(sum, []byte{}) != sum {
			t.Errorf("More(%08x) of nothing: %08x, %08x", sum, More(sum, nil), More(sum, []byte{}))
		}
		for _, b := range samples() {
			checkMore(t, sum, b)
		}
		for x := range 256 {
			checkMore(t, sum, []byte{byte(x)})
		}
	}
}

// P6.1: the bytes, and their sum behind them, the lowest byte first.
func TestSeal(t *testing.T) {
	if got := Seal([]byte("123456789")); string(got) != "123456789\x26\x39\xf4\xcb" {
		t.Errorf("Seal: %x", got)
	}
	for _, nothing := range [][]byte{nil, {}} {
		if got := Seal(nothing); string(got) != "\x00\x00\x00\x00" {
			t.Errorf("Seal of nothing: %x", got)
		}
	}
	for x := range 256 {
		checkSeal(t, []byte{byte(x)})
	}
	for _, b := range samples() {
		checkSeal(t, b)
		checkSeal(t, Seal(b))
	}
}

// P6.1: no bytes shorter than four are sealed, not even those that begin or end as sealed ones do.
func TestOpenShort(t *testing.T) {
	checkShut(t, nil)
	checkShut(t, []byte{})
	for x := range 256 {
		for n := 1; n < 4; n++ {
			checkShut(t, bytes.Repeat([]byte{byte(x)}, n))
		}
	}
	for _, b := range samples() {
		sealed := Seal(b)
		for n := range 4 {
			checkShut(t, sealed[:n])
			checkShut(t, sealed[len(sealed)-n:])
		}
	}
}

// P6.1: of four bytes just those of no sum are sealed, and nothing was.
func TestOpenFour(t *testing.T) {
	if got, ok := Open([]byte{0, 0, 0, 0}); !ok || len(got) != 0 {
		t.Errorf("Open of sealed nothing: %x, %t", got, ok)
	}
	if got, ok := Open(Seal(nil)); !ok || len(got) != 0 {
		t.Errorf("Open of Seal of nothing: %x, %t", got, ok)
	}
	for place := range 4 {
		for x := 1; x < 256; x++ {
			b := make([]byte, 4)
			b[place] = byte(x)
			checkShut(t, b)
		}
	}
	checkShut(t, []byte{0xff, 0xff, 0xff, 0xff})
	checkShut(t, []byte("1234"))
}

// P6.1: sealed bytes of which one is another one are sealed no more.
func TestOpenOtherByte(t *testing.T) {
	for _, b := range samples() {
		sealed := Seal(b)
		if len(sealed) > 40 {
			continue
		}
		for place := range sealed {
			for by := 1; by < 256; by++ {
				other := bytes.Clone(sealed)
				other[place] ^= byte(by)
				checkShut(t, other)
			}
		}
	}
}

// P6.1: sealed bytes without one of them, or with one more, open only if they happen to be sealed bytes of others.
func TestOpenByteLess(t *testing.T) {
	for _, b := range samples() {
		sealed := Seal(b)
		for place := range sealed {
			checkOpen(t, append(bytes.Clone(sealed[:place]), sealed[place+1:]...))
		}
	}
	checkShut(t, []byte("12345678\x26\x39\xf4\xcb"))
	checkShut(t, []byte("23456789\x26\x39\xf4\xcb"))
	checkShut(t, []byte("123456789\x26\x39\xf4"))
	checkShut(t, []byte("123456789\x39\xf4\xcb"))
}

func TestOpenByteMore(t *testing.T) {
	for _, b := range samples() {
		sealed := Seal(b)
		if len(sealed) > 40 {
			continue
		}
		for place := range len(sealed) + 1 {
			for _, x := range []byte{0, 1, 0x7f, 0x80, 0xff} {
				checkOpen(t, append(append(bytes.Clone(sealed[:place]), x), sealed[place:]...))
			}
		}
	}
	checkShut(t, []byte("123456789\x26\x39\xf4\xcb\x00"))
	checkShut(t, []byte("\x00123456789\x26\x39\xf4\xcb"))
	checkShut(t, []byte("1234567890\x26\x39\xf4\xcb"))
}

// P6.1: four bytes ff lead to a register of noughts, which noughts don't change: there one left out leaves sealed bytes.
func TestOpenSealedAnyway(t *testing.T) {
	body := []byte{0xff, 0xff, 0xff, 0xff}
	for range 3 {
		sealed := append(bytes.Clone(body), 0xff, 0xff, 0xff, 0xff)
		if got, ok := Open(sealed); !ok || !bytes.Equal(got, body) {
			t.Errorf("Open(%x): %x, %t", sealed, got, ok)
		}
		body = append(body, 0)
	}
}

func TestOpenSumTheOtherWayRound(t *testing.T) {
	checkShut(t, []byte("123456789\xcb\xf4\x39\x26"))
	checkShut(t, []byte("\x26\x39\xf4\xcb123456789"))
	checkShut(t, []byte("123456789\xd9\xc6\x0b\x34"))
}

// P6.2: the bits are counted by eight a byte, the lowest first, around as often as need be.
func TestTurn(t *testing.T) {
	for _, c := range []struct {
		b    string
		bit  int
		want string
	}{
		{"\x00\x00", 0, "\x01\x00"}, {"\x00\x00", 7, "\x80\x00"}, {"\x00\x00", 8, "\x00\x01"}, {"\x00\x00", 9, "\x00\x02"}, {"\x00\x00", 15, "\x00\x80"},
		{"\x00\x00", 16, "\x01\x00"}, {"\x00\x00", 17, "\x02\x00"}, {"\x00\x00", 31, "\x00\x80"}, {"\x00\x00", 32, "\x01\x00"},
		{"\x00\x00", -1, "\x00\x80"}, {"\x00\x00", -8, "\x00\x01"}, {"\x00\x00", -9, "\x80\x00"}, {"\x00\x00", -16, "\x01\x00"}, {"\x00\x00", -17, "\x00\x80"},
		{"\xff\xff\xff", 0, "\xfe\xff\xff"}, {"\xff\xff\xff", 23, "\xff\xff\x7f"}, {"\xff\xff\xff", 24, "\xfe\xff\xff"}, {"\xff\xff\xff", -1, "\xff\xff\x7f"}, {"\xff\xff\xff", -24, "\xfe\xff\xff"}, {"\xff\xff\xff", -25, "\xff\xff\x7f"},
		{"\x00", math.MaxInt, "\x80"}, {"\x00", math.MinInt, "\x01"}, {"\x00\x00", math.MaxInt, "\x00\x80"}, {"\x00\x00", math.MinInt, "\x01\x00"},
		// 2^63 by 24 leaves 8.
		{"\x00\x00\x00", math.MaxInt, "\x80\x00\x00"}, {"\x00\x00\x00", math.MinInt, "\x00\x00\x01"},
	} {
		if got := Turn([]byte(c.b), c.bit); string(got) != c.want {
			t.Errorf("Turn(%x, %d): %x, not %x", c.b, c.bit, got, c.want)
		}
	}
}

func TestTurnEmpty(t *testing.T) {
	for _, bit := range bitNumbers(0) {
		if got := Turn(nil, bit); len(got) != 0 {
			t.Errorf("Turn of nil, %d: %x", bit, got)
		}
		if got := Turn([]byte{}, bit); len(got) != 0 {
			t.Errorf("Turn of nothing, %d: %x", bit, got)
		}
	}
}

func TestTurnAgainstBits(t *testing.T) {
	for _, b := range samples() {
		for bit := range 8 * len(b) {
			checkTurn(t, b, bit)
		}
		for _, bit := range bitNumbers(8 * len(b)) {
			checkTurn(t, b, bit)
		}
	}
}

// P6.2: no sealed bytes of which one bit is turned can be opened.
func TestOpenOfTurnOfSeal(t *testing.T) {
	for _, b := range samples() {
		sealed := Seal(b)
		for bit := range 8 * len(sealed) {
			checkShut(t, Turn(sealed, bit))
		}
		for _, bit := range bitNumbers(8 * len(sealed)) {
			checkShut(t, Turn(sealed, bit))
		}
	}
}

// roomy is bytes with spare room behind them, and all of their memory, whose spare room has bytes that would show a change.
func roomy(b []byte) (handed, whole []byte) {
	whole = append(bytes.Clone(b), bytes.Repeat([]byte{0xa5}, 16)...)
	return whole[:len(b)], whole
}

// answers are what the calls tell of b by bytes.
func answers(b []byte) [][]byte {
	opened, _ := Open(b)
	return [][]byte{Seal(b), opened, Turn(b, 0), Turn(b, -1), Turn(b, math.MinInt)}
}

// callAll makes every call with b.
func callAll(b []byte) {
	Sum(b)
	More(Sum(b), b)
	answers(b)
}

// spoil changes all of a list's memory, its spare room too.
func spoil(b []byte) {
	whole := b[:cap(b)]
	for i := range whole {
		whole[i] ^= 0xff
	}
}

// P6.2: what is handed in is as it was, its spare room too.
func TestHandedInIsKept(t *testing.T) {
	for _, b := range samples() {
		for _, in := range [][]byte{b, Seal(b)} {
			handed, whole := roomy(in)
			before := bytes.Clone(whole)
			callAll(handed)
			if !bytes.Equal(whole, before) {
				t.Errorf("%x, handed in, is %x", before, whole)
			}
		}
	}
}

// P6.2: a change in what is told doesn't show in what was handed in, nor in another answer.
func TestToldIsNew(t *testing.T) {
	for _, b := range samples() {
		for _, in := range [][]byte{b, Seal(b)} {
			handed, whole := roomy(in)
			before := bytes.Clone(whole)
			want := answers(bytes.Clone(in))
			got := append(answers(handed), answers(handed)...)
			for i, told := range got {
				if !bytes.Equal(told, want[i%len(want)]) {
					t.Errorf("answer %d of %x: %x, not %x", i, in, told, want[i%len(want)])
				}
				spoil(told)
				if !bytes.Equal(whole, before) {
					t.Fatalf("answer %d of %x shows in what was handed in: %x", i, in, whole)
				}
			}
		}
	}
}

// P6.2: a change in what was handed in doesn't show in what was told.
func TestToldStays(t *testing.T) {
	for _, b := range samples() {
		for _, in := range [][]byte{b, Seal(b)} {
			handed, whole := roomy(in)
			told := answers(handed)
			var before [][]byte
			for _, a := range told {
				before = append(before, bytes.Clone(a[:cap(a)]))
			}
			spoil(whole)
			for i, a := range told {
				if !bytes.Equal(a[:cap(a)], before[i]) {
					t.Errorf("answer %d of %x is %x by now", i, in, a)
				}
			}
		}
	}
}

// Layer 6 may be used by several goroutines at one time.
func TestManyAtOnce(t *testing.T) {
	sealed := Seal([]byte("123456789"))
	var all sync.WaitGroup
	for k := range 8 {
		all.Go(func() {
			for bit := range 8 * len(sealed) {
				checkShut(t, Turn(sealed, bit+k))
				checkOpen(t, sealed)
				checkSum(t, sealed)
			}
		})
	}
	all.Wait()
}

// P1: any arguments at all are answered.
func FuzzCrc(f *testing.F) {
	f.Add([]byte(nil), uint32(0), 0)
	f.Add([]byte("123456789"), uint32(0xcbf43926), math.MinInt)
	f.Add([]byte("123456789\x26\x39\xf4\xcb"), uint32(math.MaxUint32), math.MaxInt)
	f.Add([]byte{0, 0, 0, 0}, uint32(1), -1)
	f.Fuzz(func(t *testing.T, b []byte, sum uint32, bit int) {
		handed, whole := roomy(b)
		before := bytes.Clone(whole)
		checkSum(t, handed)
		checkMore(t, sum, handed)
		checkSeal(t, handed)
		checkOpen(t, handed)
		checkTurn(t, handed, bit)
		checkShut(t, Turn(Seal(handed), bit))
		if !bytes.Equal(whole, before) {
			t.Errorf("%x, handed in, is %x", before, whole)
		}
	})
}
