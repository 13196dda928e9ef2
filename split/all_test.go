package split

import (
	"slices"
	"testing"

	"terrace/api"
	"terrace/fix"
)

// P21.1: the chapter's example.
func TestAllExample(t *testing.T) {
	if got := All(80*one, 4); !slices.Equal(got, []fix.F{10 * one, 20 * one, 40 * one, 80 * one}) {
		t.Errorf("All: %v", got)
	}
}

// P21.1: as many as there are layers, each the Cum of its place, rising, the last one the rate.
func TestAllAtTheEdges(t *testing.T) {
	for _, layers := range edges {
		for _, rate := range rates {
			list := all(t, rate, layers)
			if !isCount(layers) {
				is(t, "All of none", len(list), 0)
				continue
			}
			is(t, "All", len(list), layers)
			if list[layers-1] != rate {
				t.Fatalf("All(%d, %d): %v", rate, layers, list)
			}
			for k, up := range list {
				if up != cum(t, rate, layers, k) {
					t.Fatalf("All(%d, %d): %v", rate, layers, list)
				}
				// Where a half is 0 there is none below it.
				if k > 0 && up <= list[k-1] && up > 0 {
					t.Fatalf("All(%d, %d): %v isn't rising", rate, layers, list)
				}
			}
		}
	}
}

// P21.1: a list has fewer layers' rates at its end.
func TestAllOfFewerLayers(t *testing.T) {
	for _, rate := range rates {
		most := all(t, rate, api.MaxLayers)
		for layers := 1; layers <= api.MaxLayers; layers++ {
			if list := all(t, rate, layers); !slices.Equal(list, most[api.MaxLayers-layers:]) {
				t.Fatalf("All(%d, %d): %v", rate, layers, list)
			}
		}
	}
}

// P21.1: nothing where there are no such layers.
func TestAllOfNone(t *testing.T) {
	for _, layers := range []int{first, -256, -9, -8, -1, 0, 9, 10, 64, 256, 257, 1<<32 + 1, last} {
		for _, rate := range rates {
			is(t, "All of none", len(All(rate, layers)), 0)
		}
	}
}

// P21.1: what is told is new memory each time, spare room too.
func TestAllIsNew(t *testing.T) {
	for layers := 1; layers <= api.MaxLayers; layers++ {
		a, b := All(highest, layers), All(highest, layers)
		want := slices.Clone(b)
		clear(a[:cap(a)])
		if !slices.Equal(b, want) || !slices.Equal(All(highest, layers), want) {
			t.Fatalf("All of %d shares its memory", layers)
		}
		_ = append(b[:0], 7)
		if !slices.Equal(All(highest, layers), want) {
			t.Fatalf("All of %d keeps its memory", layers)
		}
	}
}
