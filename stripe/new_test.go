package stripe

import (
	"testing"

	"terrace/api"
)

// P22.1: each of the three numbers at every edge, with each of the others: ErrRange and nothing, or the plan.
func TestNewAtTheEdges(t *testing.T) {
	fine, refused := 0, 0
	for _, size := range edges {
		for _, block := range edges {
			for _, layers := range edges {
				if p, _ := made(t, size, block, layers); p != nil {
					fine++
				} else {
					refused++
				}
			}
		}
	}
	if all := len(edges) * len(edges) * len(edges); fine != 33*19*8 || fine+refused != all {
		t.Fatalf("%d fine, %d refused", fine, refused)
	}
}

// P22.1: wrong numbers, written out.
func TestNewWrong(t *testing.T) {
	for _, c := range [][3]int{
		{first, 1, 1}, {-1, 1, 1}, {api.MaxObject + 1, 1, 1}, {last, 1, 1}, {1 << 32, 1, 1}, {1<<32 + 1, 1, 1},
		{1, first, 1}, {1, -1, 1}, {1, 0, 1}, {1, api.MaxBlock + 1, 1}, {1, last, 1}, {1, 1<<32 + 1, 1}, {0, 0, 1}, {0, -1, 1},
		{1, 1, first}, {1, 1, -1}, {1, 1, 0}, {1, 1, api.MaxLayers + 1}, {1, 1, last}, {1, 1, 257}, {0, 1, 0}, {1, 1, 1<<32 + 1},
		{-1, 0, 0}, {first, first, first}, {last, last, last}, {-1, -1, 1}, {1, -1, -1}, {-1, 1, -1}, {api.MaxObject + 1, api.MaxBlock + 1, api.MaxLayers + 1},
	} {
		if p, e := New(c[0], c[1], c[2]); p != nil || e != api.ErrRange {
			t.Errorf("New%v: %v, %d", c, p, e)
		}
	}
}

// P22.1: just within both ends of each bound.
func TestNewRight(t *testing.T) {
	for _, size := range []int{0, 1, api.MaxObject - 1, api.MaxObject} {
		for _, block := range []int{1, 2, api.MaxBlock - 1, api.MaxBlock} {
			for _, layers := range []int{1, 2, api.MaxLayers - 1, api.MaxLayers} {
				p, e := New(size, block, layers)
				if p == nil || e != api.OK || p.Size() != size || p.Layers() != layers {
					t.Errorf("New(%d, %d, %d): %v, %d", size, block, layers, p, e)
				}
			}
		}
	}
}

// P22.1: how many blocks there are, one byte below, just at and one above what some blocks have.
func TestBlocks(t *testing.T) {
	for _, bytes := range []int{1, 2, 3, 10, api.MaxBlock} {
		for layers := 1; layers <= api.MaxLayers; layers++ {
			for _, full := range []int{1, 2, 3, 7, 8, 9, 127, 128, 129, 255} {
				size := full * bytes
				p, _ := made(t, size, bytes, layers)
				is(t, "Blocks just at", p.Blocks(), full)
				p, _ = made(t, size+1, bytes, layers)
				is(t, "Blocks one byte above", p.Blocks(), full+1)
				p, _ = made(t, size-1, bytes, layers)
				if bytes == 1 {
					is(t, "Blocks one byte below", p.Blocks(), full-1)
				} else {
					is(t, "Blocks one byte below", p.Blocks(), full)
				}
			}
			p, _ := made(t, 0, bytes, layers)
			is(t, "Blocks of nothing", p.Blocks(), 0)
		}
	}
}

// P22.1: how many blocks there are, written out.
func TestBlocksWritten(t *testing.T) {
	for _, c := range []struct{ size, block, blocks int }{
		{0, 1, 0}, {0, 64, 0}, {1, 1, 1}, {1, 2, 1}, {1, 64, 1}, {2, 1, 2}, {2, 2, 1}, {3, 2, 2}, {9, 10, 1}, {10, 10, 1}, {11, 10, 2}, {105, 10, 11},
		{63, 64, 1}, {64, 64, 1}, {65, 64, 2}, {16384, 1, 16384}, {16383, 1, 16383}, {16384, 2, 8192}, {16383, 2, 8192}, {16382, 2, 8191},
		{16384, 3, 5462}, {16383, 3, 5461}, {16384, 10, 1639}, {16380, 10, 1638}, {16384, 63, 261}, {16384, 64, 256}, {16321, 64, 256}, {16320, 64, 255},
	} {
		p, e := New(c.size, c.block, 4)
		if e != api.OK || p.Blocks() != c.blocks {
			t.Errorf("%d bytes in blocks of %d: %d, not %d", c.size, c.block, p.Blocks(), c.blocks)
		}
	}
}

// P22.1: a plan goes its own way, whatever other ones are made.
func TestPlansAreTheirOwn(t *testing.T) {
	p, m := made(t, 105, 10, 4)
	for _, c := range [][3]int{{0, 1, 1}, {api.MaxObject, api.MaxBlock, api.MaxLayers}, {-1, 1, 1}, {106, 10, 4}} {
		if q, _ := made(t, c[0], c[1], c[2]); q == p {
			t.Fatalf("New%v: the same plan", c)
		}
		holds(t, p, m)
	}
}
