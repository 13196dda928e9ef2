package split

import (
	"slices"
	"testing"

	"terrace/api"
)

// P21.2: 1, then as many as all below together.
func TestShares(t *testing.T) {
	want := []int{1, 1, 2, 4, 8, 16, 32, 64}
	for layers := 1; layers <= api.MaxLayers; layers++ {
		got := Shares(layers)
		if !slices.Equal(got, want[:layers]) {
			t.Errorf("Shares(%d): %v", layers, got)
		}
		below := 0
		for k, parts := range got {
			if k > 0 && parts != below {
				t.Errorf("Shares(%d): %v at %d", layers, got, k)
			}
			below += parts
		}
		is(t, "all parts", below, 1<<(layers-1))
	}
}

// P21.2: nothing beyond both ends.
func TestSharesOfNone(t *testing.T) {
	for _, layers := range edges {
		if !isCount(layers) {
			is(t, "Shares of none", len(Shares(layers)), 0)
		}
	}
	for _, layers := range []int{first, -1, 0, 9, 10, 64, 256, last} {
		is(t, "Shares of none", len(Shares(layers)), 0)
	}
}

// P21.2: what is told is new memory each time, spare room too.
func TestSharesAreNew(t *testing.T) {
	for layers := 1; layers <= api.MaxLayers; layers++ {
		a, b := Shares(layers), Shares(layers)
		want := slices.Clone(b)
		clear(a[:cap(a)])
		if !slices.Equal(b, want) || !slices.Equal(Shares(layers), want) {
			t.Fatalf("Shares of %d share their memory", layers)
		}
	}
}

// P21.1, P21.2: where a rate has no odd bits, the own rates are to each other as the shares.
func TestSharesOfTheRate(t *testing.T) {
	for layers := 1; layers <= api.MaxLayers; layers++ {
		shares := Shares(layers)
		for k, parts := range shares {
			if got := own(t, 128*one, layers, k); got.Times(1<<(layers-1)) != uint64(128*parts) {
				t.Errorf("Own(128, %d, %d): %d of %v", layers, k, got, shares)
			}
		}
	}
}
