package stripe

import (
	"slices"
	"testing"

	"terrace/api"
	"terrace/ranges"
)

// P22.2: sets of blocks, written out.
func TestUptoWritten(t *testing.T) {
	for _, c := range []struct {
		size, layers, k int
		want            [][2]int
	}{
		{11, 4, -1, nil}, {11, 4, 0, [][2]int{{0, 1}, {8, 9}}}, {11, 4, 1, [][2]int{{0, 2}, {8, 10}}}, {11, 4, 2, [][2]int{{0, 4}, {8, 11}}}, {11, 4, 3, [][2]int{{0, 11}}}, {11, 4, 4, [][2]int{{0, 11}}},
		{11, 4, last, [][2]int{{0, 11}}}, {11, 4, first, nil}, {16, 4, 2, [][2]int{{0, 4}, {8, 12}}}, {16, 4, 3, [][2]int{{0, 16}}}, {8, 4, 0, [][2]int{{0, 1}}}, {9, 4, 0, [][2]int{{0, 1}, {8, 9}}},
		{3, 1, 0, [][2]int{{0, 3}}}, {3, 1, -1, nil}, {3, 2, 0, [][2]int{{0, 1}, {2, 3}}}, {4, 2, 0, [][2]int{{0, 1}, {2, 3}}}, {4, 2, 1, [][2]int{{0, 4}}},
		{5, 8, 0, [][2]int{{0, 1}}}, {5, 8, 1, [][2]int{{0, 2}}}, {5, 8, 2, [][2]int{{0, 4}}}, {5, 8, 3, [][2]int{{0, 5}}}, {5, 8, 6, [][2]int{{0, 5}}}, {5, 8, 7, [][2]int{{0, 5}}},
		{0, 4, 0, nil}, {0, 4, 3, nil}, {0, 4, 9, nil}, {0, 1, 0, nil}, {200, 8, 6, [][2]int{{0, 64}, {128, 192}}}, {129, 8, 5, [][2]int{{0, 32}, {128, 129}}},
	} {
		p, m := made(t, c.size, 1, c.layers)
		set := upto(t, p, m, c.k)
		if !slices.Equal(set.Stretches(), c.want) {
			t.Errorf("%d blocks over %d layers: Upto(%d): %v", c.size, c.layers, c.k, set.Stretches())
		}
	}
}

// P22.2: how many blocks there are up to each layer, written out.
func TestCountWritten(t *testing.T) {
	for _, c := range []struct {
		size, block, layers int
		counts              []int
	}{
		{105, 10, 4, []int{2, 4, 7, 11}}, {30, 10, 1, []int{3}}, {0, 10, 3, []int{0, 0, 0}}, {5, 1, 8, []int{1, 2, 4, 5, 5, 5, 5, 5}}, {1, 64, 8, []int{1, 1, 1, 1, 1, 1, 1, 1}},
		{16384, 1, 8, []int{128, 256, 512, 1024, 2048, 4096, 8192, 16384}}, {16383, 1, 8, []int{128, 256, 512, 1024, 2048, 4096, 8192, 16383}}, {16257, 1, 8, []int{128, 255, 509, 1017, 2033, 4065, 8129, 16257}},
		{16384, 10, 8, []int{13, 26, 52, 104, 208, 416, 832, 1639}}, {16384, 10, 4, []int{205, 410, 820, 1639}}, {16384, 64, 3, []int{64, 128, 256}}, {16384, 1, 1, []int{16384}}, {16384, 1, 2, []int{8192, 16384}},
	} {
		p, m := made(t, c.size, c.block, c.layers)
		for k, want := range c.counts {
			is(t, "Count", p.Count(k), want)
			is(t, "Len of Upto", upto(t, p, m, k).Len(), want)
		}
		for _, k := range []int{first, -2, -1} {
			is(t, "Count below", p.Count(k), 0)
		}
		for _, k := range []int{c.layers, c.layers + 1, 62, 63, 64, 65, last - 1, last} {
			is(t, "Count above", p.Count(k), c.counts[c.layers-1])
		}
	}
}

// P22.2: each k at the edges, with no blocks, with fewer than a row, with some rows and a part, and with as many as there may be.
func TestUptoAtTheEdges(t *testing.T) {
	for layers := 1; layers <= api.MaxLayers; layers++ {
		row := rows[layers-1]
		for _, size := range []int{0, 1, row / 2, row - 1, row, row + 1, 2*row - 1, 2 * row, 2*row + 1, 5*row + row/2, api.MaxObject - 1, api.MaxObject} {
			p, m := made(t, size, 1, layers)
			for _, k := range edges {
				set := upto(t, p, m, k)
				is(t, "Count", p.Count(k), set.Len())
				switch {
				case k < 0:
					is(t, "Count below", p.Count(k), 0)
				case k >= layers-1:
					is(t, "Count above", p.Count(k), size)
				}
			}
		}
	}
}

// P22.2: the set has just the blocks of these layers: those that Of tells, and no other ones.
func TestUptoIsOf(t *testing.T) {
	for layers := 1; layers <= api.MaxLayers; layers++ {
		for _, size := range []int{0, 1, 5, 100, 300, 1639, api.MaxObject} {
			p, m := made(t, size, 1, layers)
			var below []int
			for k := range layers {
				below = append(below, of(t, p, m, k)...)
				slices.Sort(below)
				if got := slices.Collect(upto(t, p, m, k).All()); !slices.Equal(got, below) {
					t.Fatalf("Upto(%d) of %d layers, %d blocks: %v", k, layers, size, got)
				}
			}
		}
	}
}

// P22.2: each set is new memory: what is put into one or cut out of it shows in no other one, nor in the plan.
func TestUptoIsNew(t *testing.T) {
	for layers := 1; layers <= api.MaxLayers; layers++ {
		for _, size := range []int{0, 5, 300, api.MaxObject} {
			p, m := made(t, size, 1, layers)
			for k := -1; k <= layers; k++ {
				spoil(t, upto(t, p, m, k), upto(t, p, m, k), m.upto(k))
				upto(t, p, m, k)
			}
			holds(t, p, m)
		}
	}
}

// spoil fills and empties a set, beside which another one stays as it is.
func spoil(t *testing.T, set, other *ranges.Set, want [][2]int) {
	t.Helper()
	for range 2 {
		set.Add(0, api.MaxObject)
		is(t, "a full set", set.Len(), api.MaxObject)
		set.Cut(0, api.MaxObject)
		set.Add(3, 4)
		is(t, "a set of one", set.Len(), 1)
		if !slices.Equal(other.Stretches(), want) {
			t.Fatalf("the other set: %v, not %v", other.Stretches(), want)
		}
		set, other = other, other.Copy()
	}
}
