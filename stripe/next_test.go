package stripe

import (
	"testing"

	"terrace/api"
)

// P22.2: the next block, written out; 0 and false, if there is none.
func TestNextWritten(t *testing.T) {
	for _, c := range []struct {
		size, layers, layer, from, want int
		ok                              bool
	}{
		{11, 4, 2, first, 2, true}, {11, 4, 2, -1, 2, true}, {11, 4, 2, 0, 2, true}, {11, 4, 2, 2, 2, true}, {11, 4, 2, 3, 3, true}, {11, 4, 2, 4, 10, true},
		{11, 4, 2, 10, 10, true}, {11, 4, 2, 11, 0, false}, {11, 4, 2, last, 0, false}, {11, 4, 3, 8, 0, false}, {11, 4, 3, 7, 7, true}, {11, 4, 0, 0, 0, true}, {11, 4, 0, first, 0, true},
		{11, 4, 0, 1, 8, true}, {11, 4, 0, 8, 8, true}, {11, 4, 0, 9, 0, false}, {11, 4, 1, 2, 9, true}, {11, 4, 1, 10, 0, false}, {11, 4, 4, 0, 0, false}, {11, 4, -1, 0, 0, false},
		{3, 1, 0, 0, 0, true}, {3, 1, 0, 1, 1, true}, {3, 1, 0, 2, 2, true}, {3, 1, 0, 3, 0, false}, {3, 1, 1, 0, 0, false}, {3, 2, 1, 2, 0, false}, {4, 2, 1, 2, 3, true},
		{0, 1, 0, 0, 0, false}, {0, 1, 0, -1, 0, false}, {0, 8, 0, first, 0, false}, {0, 8, 7, last, 0, false}, {4, 8, 3, 0, 0, false}, {5, 8, 3, 0, 4, true}, {64, 8, 7, 0, 0, false}, {65, 8, 7, 0, 64, true},
		{16384, 8, 7, 0, 64, true}, {16384, 8, 7, 127, 127, true}, {16384, 8, 7, 128, 192, true}, {16384, 8, 0, 1, 128, true}, {16384, 8, 0, 16256, 16256, true}, {16384, 8, 0, 16257, 0, false},
		{16384, 8, 6, 16319, 16319, true}, {16384, 8, 6, 16320, 0, false}, {16384, 8, 7, 16383, 16383, true}, {16384, 8, 7, 16384, 0, false}, {16384, 8, 8, 0, 0, false},
	} {
		p, m := made(t, c.size, 1, c.layers)
		if got, ok := next(t, p, m, c.layer, c.from); got != c.want || ok != c.ok {
			t.Errorf("%d blocks over %d layers: Next(%d, %d): %d, %t", c.size, c.layers, c.layer, c.from, got, ok)
		}
	}
}

// P22.2: each number, at blocks of the layer, behind them, at the last one and past it, for each layer and those that there aren't.
func TestNextFromEverywhere(t *testing.T) {
	found, none := 0, 0
	for layers := 1; layers <= api.MaxLayers; layers++ {
		for _, size := range []int{0, 1, 2, 3, 100, 127, 128, 129, 255, 256, 257, 300} {
			p, m := made(t, size, 1, layers)
			for layer := -1; layer <= api.MaxLayers; layer++ {
				for from := -2; from <= size+2; from++ {
					if _, ok := next(t, p, m, layer, from); ok {
						found++
					} else {
						none++
					}
				}
				for _, from := range edges {
					next(t, p, m, layer, from)
				}
			}
		}
	}
	if found < 10000 || none < 10000 {
		t.Fatalf("%d found, %d not", found, none)
	}
}

// P22.2: from one on to the next: just what Of tells, and the next one behind a block lies behind it.
func TestNextByNext(t *testing.T) {
	for layers := 1; layers <= api.MaxLayers; layers++ {
		p, m := made(t, 1639*10-6, 10, layers)
		for layer := range layers {
			want := m.of(layer)
			for i, b := range want {
				got, ok := next(t, p, m, layer, b)
				if got != b || !ok {
					t.Fatalf("Next(%d, %d): %d", layer, b, got)
				}
				got, ok = next(t, p, m, layer, b+1)
				if ok != (i < len(want)-1) || ok && got != want[i+1] {
					t.Fatalf("Next(%d, %d): %d, %t", layer, b+1, got, ok)
				}
			}
		}
	}
}
