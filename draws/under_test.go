package draws

import (
	"encoding/binary"
	"math"
	"math/big"
	"testing"

	"terrace/fix"
)

// someDraws are the least and the greatest draws, each power's neighbours and some that lie anywhere.
func someDraws() []uint32 {
	list := []uint32{0, 1, 2, 3, 7, math.MaxUint32 - 2, math.MaxUint32 - 1, math.MaxUint32}
	for place := 2; place < 32; place++ {
		list = append(list, 1<<place-1, 1<<place, 1<<place+1)
	}
	return append(list, randomList(6, 100)...)
}

// someBounds are those that Under takes.
func someBounds() []int {
	list := []int{1, 2, 3, 5, 6, 7, 10, 100, 1000, 12345, 999999937, 1<<31 - 2, 1<<31 - 1, 1 << 31}
	for place := 2; place < 31; place++ {
		list = append(list, 1<<place-1, 1<<place, 1<<place+1)
	}
	return list
}

// noBounds are those that Under doesn't take.
func noBounds() []int {
	return []int{
		math.MinInt, math.MinInt + 1, -1 << 32, -1<<31 - 1, -1 << 31, -1000, -2, -1, 0,
		1<<31 + 1, 1<<31 + 2, 1<<32 - 1, 1 << 32, 1<<32 + 1, 1<<32 + 5, 1 << 62, math.MaxInt - 1, math.MaxInt,
	}
}

// wantUnder is the chapter's sentence by long numbers.
func wantUnder(draw uint32, n int) int {
	if n < 1 || n > 2147483648 {
		return 0
	}
	product := new(big.Int).Mul(big.NewInt(int64(draw)), big.NewInt(int64(n)))
	return int(product.Rsh(product, 32).Int64())
}

// P10.2: Under, written out.
func TestNamedUnder(t *testing.T) {
	for _, c := range []struct {
		draw    uint32
		n, want int
	}{
		{1 << 31, 10, 5},
		{1<<31 - 1, 10, 4},
		{0, 10, 0},
		{math.MaxUint32, 10, 9},
		{0, 1, 0},
		{math.MaxUint32, 1, 0},
		{1<<31 - 1, 2, 0},
		{1 << 31, 2, 1},
		{1431655765, 3, 0},
		{1431655766, 3, 1},
		{0, 1<<31 - 1, 0},
		{math.MaxUint32, 1<<31 - 1, 1<<31 - 2},
		{0, 1 << 31, 0},
		{1, 1 << 31, 0},
		{2, 1 << 31, 1},
		{math.MaxUint32, 1 << 31, 1<<31 - 1},
		{math.MaxUint32 - 2, 1 << 31, 1<<31 - 2},
	} {
		d := New([]uint32{c.draw})
		if got := d.Under(c.n); got != c.want || d.Told() != 1 {
			t.Errorf("Under(%d) of %d: %d, not %d; told %d", c.n, c.draw, got, c.want, d.Told())
		}
	}
}

// P10.2: every draw with every bound, and that it lies from 0 to the bound, less one.
func TestUnder(t *testing.T) {
	list := someDraws()
	for _, n := range someBounds() {
		d := New(list)
		for i, draw := range list {
			got := d.Under(n)
			if got != wantUnder(draw, n) {
				t.Fatalf("Under(%d) of %d: %d, not %d", n, draw, got, wantUnder(draw, n))
			}
			if got < 0 || got >= n {
				t.Fatalf("Under(%d) of %d: %d", n, draw, got)
			}
			if d.Told() != i+1 {
				t.Fatalf("Told behind Under: %d, not %d", d.Told(), i+1)
			}
		}
	}
}

// P10.2: behind the list's last one.
func TestUnderPastTheList(t *testing.T) {
	for _, l := range lists() {
		d := New(l)
		for i, draw := range wantDraws(l, len(l)+100) {
			n := someBounds()[i%len(someBounds())]
			if got := d.Under(n); got != wantUnder(draw, n) || d.Told() != i+1 {
				t.Fatalf("draw %d: Under(%d): %d, not %d; told %d", i, n, got, wantUnder(draw, n), d.Told())
			}
		}
	}
}

// P10.2: a bound that is none tells 0, and no draw.
func TestUnderRefuses(t *testing.T) {
	for _, l := range lists() {
		all := wantDraws(l, len(l)+40)
		d := New(l)
		for place := range min(len(l), 20) + 20 {
			for _, n := range noBounds() {
				if got := d.Under(n); got != 0 || d.Told() != place {
					t.Fatalf("Under(%d): %d, told %d, not %d", n, got, d.Told(), place)
				}
			}
			checkRest(t, d, all, place, 1)
		}
	}
}

// P10.2: Share, written out, and that it is above 0 and at most One.
func TestNamedShare(t *testing.T) {
	for _, c := range []struct {
		draw uint32
		want fix.F
	}{
		{0, 1},
		{1, 2},
		{1<<31 - 1, fix.Ratio(1, 2)},
		{1 << 31, fix.Ratio(1, 2) + 1},
		{math.MaxUint32 - 1, fix.One - 1},
		{math.MaxUint32, fix.One},
	} {
		d := New([]uint32{c.draw})
		if got := d.Share(); got != c.want || d.Told() != 1 {
			t.Errorf("Share of %d: %d, not %d; told %d", c.draw, got, c.want, d.Told())
		}
	}
}

func TestShare(t *testing.T) {
	list := someDraws()
	d := New(list)
	for i, draw := range wantDraws(list, len(list)+500) {
		got := d.Share()
		if uint64(got) != uint64(draw)+1 || got == 0 || got > fix.One {
			t.Fatalf("Share of %d: %d", draw, got)
		}
		if d.Told() != i+1 {
			t.Fatalf("Told behind Share: %d, not %d", d.Told(), i+1)
		}
	}
}

// checkCall makes the call that a number chooses, holds it against the draws, and tells how many were told then.
func checkCall(t *testing.T, d *Draws, all []uint32, told, call, n int) int {
	t.Helper()
	switch call {
	case 0:
		if got := d.Next(); got != all[told] {
			t.Fatalf("draw %d: Next: %d, not %d", told, got, all[told])
		}
		told++
	case 1:
		if got := d.Under(n); got != wantUnder(all[told], n) {
			t.Fatalf("draw %d: Under(%d): %d, not %d", told, n, got, wantUnder(all[told], n))
		}
		if n >= 1 && n <= 1<<31 {
			told++
		}
	case 2:
		if got := d.Share(); uint64(got) != uint64(all[told])+1 {
			t.Fatalf("draw %d: Share: %d, not %d", told, got, uint64(all[told])+1)
		}
		told++
	case 3:
		if got := d.At(n); got != wantAt(all, n) {
			t.Fatalf("At(%d): %d, not %d", n, got, wantAt(all, n))
		}
	}
	if d.Told() != told {
		t.Fatalf("call %d: Told: %d, not %d", call, d.Told(), told)
	}
	return told
}

// P10.1, P10.2: every row of five calls, on draws and a copy of them, about the list's end.
func TestEveryShortRow(t *testing.T) {
	const length, calls = 5, 4
	for _, l := range [][]uint32{nil, {7}, {math.MaxUint32, 0, 1 << 31}} {
		all := wantDraws(l, 1<<16+1)
		for row := range 1 << (2 * length) {
			for copied := range length {
				d := New(l)
				var c *Draws
				told, toldCopy := 0, 0
				for i := range length {
					if i == copied {
						c, toldCopy = d.Copy(), told
					}
					call := row >> (2 * i) % calls
					told = checkCall(t, d, all, told, call, 3)
					if c != nil {
						toldCopy = checkCall(t, c, all, toldCopy, calls-1-call, i)
					}
				}
			}
		}
	}
}

// The whole's P1: any draws, and any calls with any arguments.
func FuzzAnyCalls(f *testing.F) {
	f.Add([]byte{}, []byte{0, 1, 2, 3, 4}, math.MaxInt)
	f.Add([]byte{7, 0, 0, 0}, []byte{0, 0, 3}, 1<<16)
	f.Add([]byte{255, 255, 255, 255, 0, 0, 0, 0, 1}, []byte{1, 2, 1, 4, 1, 2}, 1<<31)
	f.Add([]byte{1, 2, 3, 4}, []byte{3, 1, 3, 1}, math.MinInt)
	f.Fuzz(func(t *testing.T, text, calls []byte, n int) {
		var l []uint32
		for ; len(text) >= 4; text = text[4:] {
			l = append(l, binary.LittleEndian.Uint32(text))
		}
		all := wantDraws(l, max(len(l)+len(calls), 1<<16)+1)
		d := New(l)
		told := 0
		for i, call := range calls {
			if call%5 == 4 {
				first := d
				d = d.Copy()
				first.Next()
				continue
			}
			arguments := []int{n, n >> 32, n >> 47, -n, n + i}
			told = checkCall(t, d, all, told, int(call%5), arguments[i%len(arguments)])
		}
	})
}
