package stripe

import (
	"iter"
	"slices"
	"testing"

	"terrace/api"
)

// some goes through what is told up to so many.
func some(seq iter.Seq[int], most int) []int {
	var list []int
	for b := range seq {
		list = append(list, b)
		if len(list) == most {
			break
		}
	}
	return list
}

// P22.2: the layers' blocks, written out.
func TestOfWritten(t *testing.T) {
	for _, c := range []struct {
		size, layers, layer int
		want                []int
	}{
		{11, 4, 0, []int{0, 8}}, {11, 4, 1, []int{1, 9}}, {11, 4, 2, []int{2, 3, 10}}, {11, 4, 3, []int{4, 5, 6, 7}}, {11, 4, 4, nil}, {11, 4, -1, nil},
		{3, 1, 0, []int{0, 1, 2}}, {3, 1, 1, nil}, {5, 2, 0, []int{0, 2, 4}}, {5, 2, 1, []int{1, 3}}, {5, 3, 2, []int{2, 3}}, {5, 8, 3, []int{4}}, {5, 8, 4, nil}, {5, 8, 7, nil},
		{0, 4, 0, nil}, {0, 1, 0, nil}, {129, 8, 0, []int{0, 128}}, {129, 8, 1, []int{1}}, {66, 8, 7, []int{64, 65}},
	} {
		p, m := made(t, c.size, 1, c.layers)
		if got := of(t, p, m, c.layer); !slices.Equal(got, c.want) {
			t.Errorf("%d blocks over %d layers: Of(%d): %v", c.size, c.layers, c.layer, got)
		}
	}
}

// P22.2: rising, each of the layer, none left out, each block of just one layer.
func TestOfTogether(t *testing.T) {
	for layers := 1; layers <= api.MaxLayers; layers++ {
		for _, size := range []int{0, 1, 2, 3, 127, 128, 129, 1639, api.MaxObject - 1, api.MaxObject} {
			p, m := made(t, size, 1, layers)
			var all []int
			for layer := range layers {
				list := of(t, p, m, layer)
				for _, b := range list {
					if own, e := p.Layer(b); own != layer || e != api.OK {
						t.Fatalf("Of(%d): %d of layer %d", layer, b, own)
					}
				}
				if !slices.IsSorted(list) {
					t.Fatalf("Of(%d): %v", layer, list)
				}
				all = append(all, list...)
			}
			slices.Sort(all)
			is(t, "blocks of all layers", len(all), p.Blocks())
			for b, got := range all {
				is(t, "a block of all layers", got, b)
			}
		}
	}
}

// P22.2: none of layers that there aren't.
func TestOfNoSuchLayer(t *testing.T) {
	for layers := 1; layers <= api.MaxLayers; layers++ {
		for _, size := range []int{0, 1, 200, api.MaxObject} {
			p, m := made(t, size, 1, layers)
			for _, layer := range []int{first, first + 1, -64, -1, layers, layers + 1, 8, 9, 63, 64, 65, 1 << 32, last - 1, last} {
				is(t, "blocks of no such layer", len(of(t, p, m, layer)), 0)
				if b, ok := p.Next(layer, 0); b != 0 || ok {
					t.Fatalf("Next(%d, 0) of %d layers: %d, %t", layer, layers, b, ok)
				}
			}
		}
	}
}

// P22.2: as far as it is asked: up to the first one, the middle, the last one, and beyond.
func TestOfAsFarAsAsked(t *testing.T) {
	for layers := 1; layers <= api.MaxLayers; layers++ {
		p, m := made(t, 300, 1, layers)
		for layer := range layers {
			want := m.of(layer)
			for _, most := range []int{1, 2, (len(want) + 1) / 2, len(want) - 1, len(want), len(want) + 1} {
				if most < 1 {
					continue
				}
				seq := p.Of(layer)
				for range 2 {
					if got := some(seq, most); !slices.Equal(got, want[:min(most, len(want))]) {
						t.Fatalf("Of(%d) of %d layers, %d of it: %v", layer, layers, most, got)
					}
				}
				if got := slices.Collect(seq); !slices.Equal(got, want) {
					t.Fatalf("Of(%d) of %d layers, all of it: %v", layer, layers, got)
				}
			}
		}
	}
}

// P22.2: behind a no, nothing more is told.
func TestOfStops(t *testing.T) {
	p, _ := made(t, 300, 1, 4)
	for stop := 1; stop <= 38; stop++ {
		told := 0
		p.Of(0)(func(int) bool {
			told++
			return told < stop
		})
		is(t, "told up to a no", told, stop)
	}
}

// P22.2: two of them side by side, and one within the other.
func TestOfSideBySide(t *testing.T) {
	p, m := made(t, 300, 1, 4)
	a, stopA := iter.Pull(p.Of(2))
	defer stopA()
	b, stopB := iter.Pull(p.Of(1))
	defer stopB()
	c, stopC := iter.Pull(p.Of(2))
	defer stopC()
	twos, ones := m.of(2), m.of(1)
	for i, two := range twos {
		if got, ok := a(); got != two || !ok {
			t.Fatalf("Of(2) at %d: %d", i, got)
		}
		if i < len(ones) {
			if got, ok := b(); got != ones[i] || !ok {
				t.Fatalf("Of(1) at %d: %d", i, got)
			}
		}
		if i%2 == 0 {
			if got, ok := c(); got != twos[i/2] || !ok {
				t.Fatalf("the other Of(2) at %d: %d", i, got)
			}
		}
	}
	if _, ok := a(); ok {
		t.Fatal("Of(2) has more")
	}
	outer := 0
	seq := p.Of(0)
	for range seq {
		inner := 0
		for range seq {
			inner++
		}
		is(t, "the inner one", inner, 38)
		outer++
	}
	is(t, "the outer one", outer, 38)
}

// P22.2: the calls on a plan don't move what is told of it.
func TestOfAmidCalls(t *testing.T) {
	p, m := made(t, 300, 1, 4)
	i, want := 0, m.of(3)
	for b := range p.Of(3) {
		is(t, "Of(3)", b, want[i])
		next(t, p, m, 2, 7*i)
		upto(t, p, m, i%4)
		block(t, p, m, b)
		i++
	}
	is(t, "blocks of layer 3", i, len(want))
}
