package split

import (
	"math/rand/v2"
	"slices"
	"testing"

	"terrace/api"
	"terrace/fix"
)

// anyRate is one of any length in bits.
func anyRate(r *rand.Rand) fix.F { return fix.F(r.Uint64() >> r.IntN(64)) }

// P21.1, P21.2: any rates over any layers, against the model.
func TestAnyRates(t *testing.T) {
	r := rand.New(rand.NewPCG(21, 1))
	var levels [api.MaxLayers + 1]int
	for range 20000 {
		rate, layers := anyRate(r), 1+r.IntN(api.MaxLayers)
		list, sum := all(t, rate, layers), fix.F(0)
		for k := range layers {
			cum(t, rate, layers, k)
			sum += own(t, rate, layers, k)
		}
		if sum != rate {
			t.Fatalf("own rates of %d over %d: %d", rate, layers, sum)
		}
		for _, own := range append(beside(list[r.IntN(layers)]), anyRate(r)) {
			levels[1+level(t, own, rate, layers)]++
		}
	}
	for k, n := range levels {
		if n < 100 {
			t.Errorf("level %d: %d times", k-1, n)
		}
	}
}

// P21.2: any lists, in any order, against the model.
func TestAnyLists(t *testing.T) {
	r := rand.New(rand.NewPCG(21, 2))
	none, some, every := 0, 0, 0
	for range 20000 {
		list := make([]fix.F, 1+r.IntN(12))
		for k := range list {
			list[k] = anyRate(r)
		}
		switch r.IntN(3) {
		case 0:
			slices.Sort(list)
		case 1:
			slices.Sort(list)
			slices.Reverse(list)
		}
		for _, own := range append(beside(list[r.IntN(len(list))]), anyRate(r)) {
			switch fits(t, own, list) {
			case -1:
				none++
			case len(list) - 1:
				every++
			default:
				some++
			}
		}
	}
	if none < 1000 || some < 1000 || every < 1000 {
		t.Fatalf("%d with none, %d with some, %d with every one", none, some, every)
	}
}

// P21.1, P21.2: what a call answers hangs on its arguments alone, whatever was called ahead of it.
func TestNothingIsKept(t *testing.T) {
	r := rand.New(rand.NewPCG(21, 3))
	for range 2000 {
		layers, k := edges[r.IntN(len(edges))], edges[r.IntN(len(edges))]
		All(anyRate(r), layers)
		Shares(layers)
		Level(anyRate(r), anyRate(r), k)
		if got := All(80*one, 4); !slices.Equal(got, []fix.F{10 * one, 20 * one, 40 * one, 80 * one}) {
			t.Fatalf("All: %v", got)
		}
		is(t, "Level", Level(45*one, 80*one, 4), 2)
	}
}

// P1: all calls end and none panics, at any arguments.
func FuzzCalls(f *testing.F) {
	for _, layers := range []int{first, -1, 0, 1, 4, 8, 9, last} {
		for _, k := range []int{first, -1, 0, 3, 7, 8, last} {
			f.Add(uint64(80*one), uint64(45*one), layers, k, []byte{3, 6, 4})
			f.Add(uint64(highest), uint64(1), layers, k, []byte{})
		}
	}
	f.Fuzz(func(t *testing.T, rate, mine uint64, layers, k int, data []byte) {
		cum(t, fix.F(rate), layers, k)
		own(t, fix.F(rate), layers, k)
		list := all(t, fix.F(rate), layers)
		is(t, "Level", level(t, fix.F(mine), fix.F(rate), layers), fits(t, fix.F(mine), list))
		for _, b := range data[:min(len(data), 64)] {
			list = append(list, fix.F(b)<<(b%57))
		}
		fits(t, fix.F(mine), list)
		if isCount(layers) != (len(Shares(layers)) > 0) {
			t.Fatalf("Shares(%d): %v", layers, Shares(layers))
		}
	})
}
