package split

import (
	"testing"

	"terrace/api"
	"terrace/fix"
)

// P21.1: the chapter's example.
func TestExample(t *testing.T) {
	for k, want := range []fix.F{10 * one, 10 * one, 20 * one, 40 * one} {
		if got, e := Own(80*one, 4, k); got != want || e != api.OK {
			t.Errorf("Own(%d): %d, %d", k, got, e)
		}
	}
	for k, want := range []fix.F{10 * one, 20 * one, 40 * one, 80 * one} {
		if got, e := Cum(80*one, 4, k); got != want || e != api.OK {
			t.Errorf("Cum(%d): %d, %d", k, got, e)
		}
	}
}

// P21.1: halves that leave something over, written out.
func TestCumWritten(t *testing.T) {
	for _, c := range []struct {
		rate   fix.F
		layers int
		cums   []fix.F
	}{
		{0, 8, []fix.F{0, 0, 0, 0, 0, 0, 0, 0}},
		{1, 8, []fix.F{0, 0, 0, 0, 0, 0, 0, 1}},
		{2, 8, []fix.F{0, 0, 0, 0, 0, 0, 1, 2}},
		{127, 8, []fix.F{0, 1, 3, 7, 15, 31, 63, 127}},
		{128, 8, []fix.F{1, 2, 4, 8, 16, 32, 64, 128}},
		{255, 8, []fix.F{1, 3, 7, 15, 31, 63, 127, 255}},
		{256, 8, []fix.F{2, 4, 8, 16, 32, 64, 128, 256}},
		{0, 1, []fix.F{0}},
		{1, 1, []fix.F{1}},
		{1, 2, []fix.F{0, 1}},
		{255, 1, []fix.F{255}},
		{255, 3, []fix.F{63, 127, 255}},
		{one - 1, 3, []fix.F{one/4 - 1, one/2 - 1, one - 1}},
		{one, 3, []fix.F{one / 4, one / 2, one}},
		{one + 1, 3, []fix.F{one / 4, one / 2, one + 1}},
		{one + 3, 4, []fix.F{one / 8, one / 4, one/2 + 1, one + 3}},
		{1000001, 8, []fix.F{7812, 15625, 31250, 62500, 125000, 250000, 500000, 1000001}},
		{highest, 1, []fix.F{highest}},
		{highest, 2, []fix.F{1<<63 - 1, highest}},
		{highest, 8, []fix.F{1<<57 - 1, 1<<58 - 1, 1<<59 - 1, 1<<60 - 1, 1<<61 - 1, 1<<62 - 1, 1<<63 - 1, highest}},
		{highest - 1, 3, []fix.F{1<<62 - 1, 1<<63 - 1, highest - 1}},
	} {
		if len(c.cums) != c.layers {
			t.Fatalf("%d of %d", len(c.cums), c.layers)
		}
		for k, want := range c.cums {
			if got := cum(t, c.rate, c.layers, k); got != want {
				t.Errorf("Cum(%d, %d, %d): %d, not %d", c.rate, c.layers, k, got, want)
			}
		}
	}
}

// P21.1: what is lost by rounding below is a layer's own, written out.
func TestOwnWritten(t *testing.T) {
	for _, c := range []struct {
		rate fix.F
		owns []fix.F
	}{
		{0, []fix.F{0, 0, 0, 0, 0, 0, 0, 0}},
		{1, []fix.F{0, 0, 0, 0, 0, 0, 0, 1}},
		{2, []fix.F{0, 0, 0, 0, 0, 0, 1, 1}},
		{3, []fix.F{0, 0, 0, 0, 0, 0, 1, 2}},
		{127, []fix.F{0, 1, 2, 4, 8, 16, 32, 64}},
		{128, []fix.F{1, 1, 2, 4, 8, 16, 32, 64}},
		{129, []fix.F{1, 1, 2, 4, 8, 16, 32, 65}},
		{255, []fix.F{1, 2, 4, 8, 16, 32, 64, 128}},
		{1, []fix.F{1}},
		{highest, []fix.F{highest}},
		{highest, []fix.F{1<<63 - 1, 1 << 63}},
		{highest, []fix.F{1<<62 - 1, 1 << 62, 1 << 63}},
		{one + 1, []fix.F{one / 4, one / 4, one/2 + 1}},
		{1000001, []fix.F{7812, 7813, 15625, 31250, 62500, 125000, 250000, 500001}},
	} {
		for k, want := range c.owns {
			if got := own(t, c.rate, len(c.owns), k); got != want {
				t.Errorf("Own(%d, %d, %d): %d, not %d", c.rate, len(c.owns), k, got, want)
			}
		}
	}
}

// P21.1: layers and k at every edge: ErrRange with 0, or the rate of a layer that there is.
func TestCumAndOwnAtTheEdges(t *testing.T) {
	refused, fine := 0, 0
	for _, layers := range edges {
		for _, k := range append([]int{layers - 2, layers - 1, layers}, edges...) {
			for _, rate := range rates {
				got := cum(t, rate, layers, k)
				own(t, rate, layers, k)
				_, e := Cum(rate, layers, k)
				_, f := Own(rate, layers, k)
				if e != f {
					t.Fatalf("Cum(%d, %d, %d): %d, Own: %d", rate, layers, k, e, f)
				}
				if e != api.OK {
					refused++
					continue
				}
				fine++
				if k == layers-1 && got != rate {
					t.Fatalf("Cum(%d, %d, %d): %d", rate, layers, k, got)
				}
			}
		}
	}
	if each := len(rates); fine != (36+8+7)*each || refused == 0 {
		t.Fatalf("%d fine, %d refused, of %d rates", fine, refused, each)
	}
}

// P21.1: wrong numbers, written out.
func TestCumAndOwnWrong(t *testing.T) {
	for _, c := range []struct{ layers, k int }{
		{0, 0}, {0, -1}, {-1, 0}, {-1, -1}, {-1, -2}, {first, 0}, {first, first}, {first, last}, {9, 0}, {9, 8}, {9, 4}, {last, 0}, {last, last - 1}, {last, last},
		{1, -1}, {1, 1}, {1, 2}, {2, 2}, {2, -1}, {8, 8}, {8, -1}, {8, 9}, {8, first}, {8, last}, {1, first}, {1, last}, {4, 4}, {4, -1}, {257, 1}, {1<<32 + 4, 2}, {4, 1 << 32}, {4, 256},
	} {
		for _, rate := range rates {
			if got, e := Cum(rate, c.layers, c.k); got != 0 || e != api.ErrRange {
				t.Errorf("Cum(%d, %d, %d): %d, %d", rate, c.layers, c.k, got, e)
			}
			if got, e := Own(rate, c.layers, c.k); got != 0 || e != api.ErrRange {
				t.Errorf("Own(%d, %d, %d): %d, %d", rate, c.layers, c.k, got, e)
			}
		}
	}
}

// P21.1: the own rates up to each layer are together its cumulative one, and all of them the rate: nothing is lost.
func TestOwnTogether(t *testing.T) {
	for _, rate := range rates {
		for layers := 1; layers <= api.MaxLayers; layers++ {
			sum := long(0)
			for k := range layers {
				sum.Add(sum, long(own(t, rate, layers, k)))
				if up := cum(t, rate, layers, k); sum.Cmp(long(up)) != 0 {
					t.Fatalf("own rates of %d up to %d of %d: %s, not %d", rate, k, layers, sum, up)
				}
			}
			if sum.Cmp(long(rate)) != 0 {
				t.Fatalf("own rates of %d over %d: %s", rate, layers, sum)
			}
		}
	}
}

// P21.1: each layer but the lowest one has half of what is up to it, and the odd bit.
func TestOwnIsHalf(t *testing.T) {
	for _, rate := range rates {
		for layers := 2; layers <= api.MaxLayers; layers++ {
			for k := 1; k < layers; k++ {
				up, mine := cum(t, rate, layers, k), own(t, rate, layers, k)
				if mine != up/2+up%2 {
					t.Fatalf("Own(%d, %d, %d): %d of %d", rate, layers, k, mine, up)
				}
			}
			if cum(t, rate, layers, 0) != own(t, rate, layers, 0) {
				t.Fatalf("Own(%d, %d, 0)", rate, layers)
			}
		}
	}
}
