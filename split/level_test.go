package split

import (
	"testing"

	"terrace/api"
	"terrace/fix"
)

// P21.2: the chapter's example, and own rates beside each cumulative one.
func TestLevelExample(t *testing.T) {
	for _, c := range []struct {
		own  fix.F
		want int
	}{
		{45 * one, 2}, {0, -1}, {1, -1}, {9 * one, -1}, {10*one - 1, -1}, {10 * one, 0}, {10*one + 1, 0}, {20*one - 1, 0}, {20 * one, 1}, {20*one + 1, 1},
		{40*one - 1, 1}, {40 * one, 2}, {40*one + 1, 2}, {80*one - 1, 2}, {80 * one, 3}, {80*one + 1, 3}, {1000 * one, 3}, {highest, 3},
	} {
		if got := level(t, c.own, 80*one, 4); got != c.want {
			t.Errorf("Level(%d): %d, not %d", c.own, got, c.want)
		}
	}
}

// P21.2: a bit below, just at and a bit above each cumulative rate, of every number of layers.
func TestLevelBesideEachRate(t *testing.T) {
	for _, rate := range rates {
		for layers := 1; layers <= api.MaxLayers; layers++ {
			list := All(rate, layers)
			for _, own := range append(rates, list...) {
				for _, near := range beside(own) {
					is(t, "Level", level(t, near, rate, layers), Fits(near, list))
				}
			}
			is(t, "Level of all", level(t, rate, rate, layers), layers-1)
			is(t, "Level of Max", level(t, highest, rate, layers), layers-1)
			if list[0] > 0 {
				is(t, "Level of too little", level(t, list[0]-1, rate, layers), -1)
				is(t, "Level of nothing", level(t, 0, rate, layers), -1)
			}
		}
	}
}

// P21.2: what costs nothing fits: a rate of 0 has all its layers, and halves of 0 are enough at 0.
func TestLevelOfNoRate(t *testing.T) {
	for layers := 1; layers <= api.MaxLayers; layers++ {
		for _, own := range rates {
			is(t, "Level of a rate of 0", level(t, own, 0, layers), layers-1)
		}
		is(t, "Level of a rate of a bit", level(t, 0, 1, layers), layers-2)
		is(t, "Level of a rate of a bit", level(t, 1, 1, layers), layers-1)
		is(t, "Level of a rate of seven bits", level(t, 0, 7, layers), max(layers-4, -1))
	}
}

// P21.2: -1, where there are no such layers.
func TestLevelOfNoLayers(t *testing.T) {
	for _, layers := range edges {
		if isCount(layers) {
			continue
		}
		for _, rate := range rates {
			for _, own := range rates {
				is(t, "Level of no such layers", level(t, own, rate, layers), -1)
			}
		}
	}
	for _, layers := range []int{first, -1, 0, 9, last} {
		is(t, "Level of no such layers", Level(highest, 0, layers), -1)
		is(t, "Level of no such layers", Level(0, 0, layers), -1)
	}
}
