package stripe

import (
	"slices"
	"testing"

	"terrace/api"
	"terrace/split"
)

// P22.1: the chapter's example.
func TestExample(t *testing.T) {
	p, _ := made(t, 1000, 10, 4)
	for b, want := range []int{0, 1, 2, 2, 3, 3, 3, 3, 0, 1, 2, 2, 3, 3, 3, 3, 0} {
		if layer, e := p.Layer(b); layer != want || e != api.OK {
			t.Errorf("Layer(%d): %d, %d", b, layer, e)
		}
	}
}

// P22.1: a block's layer is that of its number modulo 2^(layers - 1), of each number of layers.
func TestLayerByTheTable(t *testing.T) {
	for layers := 1; layers <= api.MaxLayers; layers++ {
		p, _ := made(t, api.MaxObject, 1, layers)
		for b := range api.MaxObject {
			want := int(table[b%rows[layers-1]] - '0')
			if layer, e := p.Layer(b); layer != want || e != api.OK {
				t.Fatalf("of %d layers: Layer(%d): %d, %d, not %d", layers, b, layer, e, want)
			}
		}
	}
}

// P22.1: layers written out, at both ends of each layer's part.
func TestLayerWritten(t *testing.T) {
	for _, c := range []struct{ layers, b, layer int }{
		{1, 0, 0}, {1, 1, 0}, {1, 127, 0}, {1, 16383, 0}, {2, 0, 0}, {2, 1, 1}, {2, 2, 0}, {2, 16383, 1}, {3, 3, 2}, {3, 4, 0}, {3, 5, 1}, {3, 16382, 2},
		{8, 0, 0}, {8, 1, 1}, {8, 2, 2}, {8, 3, 2}, {8, 4, 3}, {8, 7, 3}, {8, 8, 4}, {8, 15, 4}, {8, 16, 5}, {8, 31, 5}, {8, 32, 6}, {8, 63, 6}, {8, 64, 7}, {8, 127, 7},
		{8, 128, 0}, {8, 129, 1}, {8, 255, 7}, {8, 256, 0}, {8, 16256, 0}, {8, 16383, 7}, {7, 63, 6}, {7, 64, 0}, {7, 127, 6}, {7, 128, 0}, {6, 31, 5}, {6, 32, 0}, {5, 15, 4}, {5, 16, 0},
	} {
		p, _ := made(t, api.MaxObject, 1, c.layers)
		if layer, e := p.Layer(c.b); layer != c.layer || e != api.OK {
			t.Errorf("of %d layers: Layer(%d): %d, %d, not %d", c.layers, c.b, layer, e, c.layer)
		}
	}
}

// P22.1: where there is no such block: ErrRange, and 0.
func TestNoSuchBlock(t *testing.T) {
	for _, c := range [][3]int{{0, 1, 1}, {0, 64, 8}, {1, 1, 1}, {105, 10, 4}, {100, 10, 4}, {api.MaxObject, 1, 8}, {api.MaxObject, 64, 3}} {
		p, m := made(t, c[0], c[1], c[2])
		for _, b := range []int{first, first + 1, -128, -2, -1, p.Blocks(), p.Blocks() + 1, p.Blocks() + 128, api.MaxObject, api.MaxObject + 1, 1 << 32, last / 10, last - 1, last} {
			if layer, e := p.Layer(b); layer != 0 || e != api.ErrRange {
				t.Errorf("%v: Layer(%d): %d, %d", c, b, layer, e)
			}
			if from, to, e := p.Bytes(b); from != 0 || to != 0 || e != api.ErrRange {
				t.Errorf("%v: Bytes(%d): %d, %d, %d", c, b, from, to, e)
			}
		}
		for _, b := range edges {
			block(t, p, m, b)
		}
	}
}

// P22.1: where blocks lie, written out; the last one has what is left.
func TestBytesWritten(t *testing.T) {
	for _, c := range []struct{ size, block, b, from, to int }{
		{1, 1, 0, 0, 1}, {1, 64, 0, 0, 1}, {2, 1, 1, 1, 2}, {5, 2, 0, 0, 2}, {5, 2, 1, 2, 4}, {5, 2, 2, 4, 5}, {105, 10, 0, 0, 10}, {105, 10, 9, 90, 100}, {105, 10, 10, 100, 105},
		{100, 10, 9, 90, 100}, {101, 10, 10, 100, 101}, {99, 10, 9, 90, 99}, {64, 64, 0, 0, 64}, {65, 64, 1, 64, 65}, {63, 64, 0, 0, 63}, {127, 64, 1, 64, 127}, {128, 64, 1, 64, 128},
		{16384, 1, 16383, 16383, 16384}, {16384, 3, 5461, 16383, 16384}, {16384, 10, 1638, 16380, 16384}, {16384, 64, 255, 16320, 16384}, {16321, 64, 255, 16320, 16321}, {16383, 2, 8191, 16382, 16383},
	} {
		for layers := 1; layers <= api.MaxLayers; layers++ {
			p, _ := made(t, c.size, c.block, layers)
			if from, to, e := p.Bytes(c.b); from != c.from || to != c.to || e != api.OK {
				t.Errorf("%d in blocks of %d: Bytes(%d): %d, %d, %d", c.size, c.block, c.b, from, to, e)
			}
		}
	}
}

// P22.1: the blocks' bytes lie side by side, and are together the object's, each of just one block.
func TestBytesSideBySide(t *testing.T) {
	for _, bytes := range []int{1, 2, 3, 10, 63, api.MaxBlock} {
		for _, size := range []int{0, 1, bytes - 1, bytes, bytes + 1, 5*bytes - 1, 5 * bytes, 5*bytes + 1, 200 * bytes, api.MaxObject - 1, api.MaxObject} {
			p, _ := made(t, size, bytes, 4)
			end := 0
			for b := range p.Blocks() {
				from, to, e := p.Bytes(b)
				if e != api.OK || from != end || to <= from || to-from > bytes || to-from < bytes && b != p.Blocks()-1 {
					t.Fatalf("%d in blocks of %d: Bytes(%d): %d, %d, %d behind %d", size, bytes, b, from, to, e, end)
				}
				end = to
			}
			is(t, "the end of the last one", end, size)
		}
	}
}

// P22.1: of 2^(layers - 1) blocks in a row, beginning at any of them, each layer has its parts.
func TestLayersShares(t *testing.T) {
	for layers := 1; layers <= api.MaxLayers; layers++ {
		shares := split.Shares(layers)
		p, _ := made(t, 3*rows[layers-1]+5, 1, layers)
		for start := 0; start+rows[layers-1] <= p.Blocks(); start++ {
			parts := make([]int, layers)
			for b := start; b < start+rows[layers-1]; b++ {
				layer, _ := p.Layer(b)
				parts[layer]++
			}
			if !slices.Equal(parts, shares) {
				t.Fatalf("of %d layers: %v from %d on", layers, parts, start)
			}
		}
	}
}
