package split

import (
	"math"
	"math/big"
	"slices"
	"testing"

	"terrace/api"
	"terrace/fix"
)

const (
	first   = math.MinInt
	last    = math.MaxInt
	highest = math.MaxUint64
	one     = 1 << 32
)

// edges are the numbers that the chapter and the language make special, as numbers of layers and as layers.
var edges = []int{
	first, first + 1, first + 2, first + 8, -1 << 32, 1 - 1<<32, 4 - 1<<32, -1 << 31, -256, -255, -64, -63, -9, -8, -7, -4, -3, -2, -1,
	0, 1, 2, 3, 4, 5, 6, 7, 8, 9, 10, 15, 16, 31, 32, 33, 63, 64, 65, 255, 256, 257, 260, 1<<16 + 4, 1<<31 - 1, 1 << 31, 1<<31 + 4,
	1<<32 - 1, 1 << 32, 1<<32 + 1, 1<<32 + 4, 1 << 62, last - 8, last - 1, last,
}

// rates are those at both ends, beside a whole number, and those whose halves leave something over.
var rates = []fix.F{
	0, 1, 2, 3, 4, 5, 63, 64, 65, 85, 126, 127, 128, 129, 170, 254, 255, 256, 257, 511, 512,
	one/3 - 1, one / 3, one/2 - 1, one / 2, one - 2, one - 1, one, one + 1, one + 127, one + 128, one + 255, 2*one - 1, 2 * one, 2*one + 1,
	10 * one, 45 * one, 80*one - 1, 80 * one, 80*one + 1, 80*one + 7, 0x5555555555555555, 0xAAAAAAAAAAAAAAAA,
	1<<63 - 1, 1 << 63, 1<<63 + 1, highest - one, highest - 255, highest - 128, highest - 127, highest - 2, highest - 1, highest,
}

// beside is a rate, with those a bit from it where there are such.
func beside(rate fix.F) []fix.F {
	list := []fix.F{rate}
	if rate > 0 {
		list = append(list, rate-1)
	}
	if rate < highest {
		list = append(list, rate+1)
	}
	return list
}

func long(rate fix.F) *big.Int { return new(big.Int).SetUint64(uint64(rate)) }

// isCount: may there be so many layers? Written out one by one, as the model of it.
func isCount(layers int) bool { return slices.Contains([]int{1, 2, 3, 4, 5, 6, 7, 8}, layers) }

// cumPlain is the chapter's beginning in long numbers: halved once for each layer above k, rounded down each time. It is nil where there is none.
func cumPlain(rate fix.F, layers, k int) *big.Int {
	if !isCount(layers) || k < 0 || k > layers-1 {
		return nil
	}
	half := long(rate)
	for above := layers - 1; above > k; above-- {
		half.Quo(half, big.NewInt(2))
	}
	return half
}

// ownPlain is what a layer's rate has more than that of the layer below it.
func ownPlain(rate fix.F, layers, k int) *big.Int {
	cum := cumPlain(rate, layers, k)
	if cum == nil || k == 0 {
		return cum
	}
	return new(big.Int).Sub(cum, cumPlain(rate, layers, k-1))
}

// fitsPlain tries the places from the last one on down, and holds each rate up to it against own.
func fitsPlain(own fix.F, rates []fix.F) int {
	for k := len(rates) - 1; k >= 0; k-- {
		above := 0
		for _, rate := range rates[:k+1] {
			if long(rate).Cmp(long(own)) > 0 {
				above++
			}
		}
		if above == 0 {
			return k
		}
	}
	return -1
}

// levelPlain counts the layers whose cumulative rate isn't above own: they are the lowest ones.
func levelPlain(own, rate fix.F, layers int) int {
	level := -1
	for k := range 8 {
		if cum := cumPlain(rate, layers, k); cum != nil && cum.Cmp(long(own)) <= 0 {
			level++
		}
	}
	return level
}

// rateIs holds an answer of Cum or Own against the model's.
func rateIs(t testing.TB, name string, got fix.F, e api.Errno, want *big.Int, rate fix.F, layers, k int) {
	t.Helper()
	if want == nil {
		if e != api.ErrRange || got != 0 {
			t.Fatalf("%s(%d, %d, %d): %d, %d", name, rate, layers, k, got, e)
		}
		return
	}
	if e != api.OK || long(got).Cmp(want) != 0 {
		t.Fatalf("%s(%d, %d, %d): %d, %d, not %s", name, rate, layers, k, got, e, want)
	}
}

// cum makes the call, and holds it against the model.
func cum(t testing.TB, rate fix.F, layers, k int) fix.F {
	t.Helper()
	got, e := Cum(rate, layers, k)
	rateIs(t, "Cum", got, e, cumPlain(rate, layers, k), rate, layers, k)
	return got
}

// own makes the call, and holds it against the model.
func own(t testing.TB, rate fix.F, layers, k int) fix.F {
	t.Helper()
	got, e := Own(rate, layers, k)
	rateIs(t, "Own", got, e, ownPlain(rate, layers, k), rate, layers, k)
	return got
}

// all makes the call, and holds its length and each place against the model.
func all(t testing.TB, rate fix.F, layers int) []fix.F {
	t.Helper()
	got := All(rate, layers)
	want := 0
	for k := range 8 {
		if cumPlain(rate, layers, k) != nil {
			want++
		}
	}
	if len(got) != want {
		t.Fatalf("All(%d, %d): %v", rate, layers, got)
	}
	for k, up := range got {
		if long(up).Cmp(cumPlain(rate, layers, k)) != 0 {
			t.Fatalf("All(%d, %d): %v at %d", rate, layers, got, k)
		}
	}
	return got
}

// fits makes the call, holds it against the model, and holds that the list is as it was, its spare room too.
func fits(t testing.TB, own fix.F, rates []fix.F) int {
	t.Helper()
	was := slices.Clone(rates[:cap(rates)])
	got := Fits(own, rates)
	if want := fitsPlain(own, rates); got != want {
		t.Fatalf("Fits(%d, %v): %d, not %d", own, rates, got, want)
	}
	if !slices.Equal(rates[:cap(rates)], was) {
		t.Fatalf("Fits(%d, %v): changed", own, was)
	}
	return got
}

// level makes the call, and holds it against the model.
func level(t testing.TB, own, rate fix.F, layers int) int {
	t.Helper()
	got := Level(own, rate, layers)
	if want := levelPlain(own, rate, layers); got != want {
		t.Fatalf("Level(%d, %d, %d): %d, not %d", own, rate, layers, got, want)
	}
	return got
}

// is holds a number against the one that is written out.
func is(t testing.TB, name string, got, want int) {
	t.Helper()
	if got != want {
		t.Fatalf("%s: %d, not %d", name, got, want)
	}
}
