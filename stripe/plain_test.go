package stripe

import (
	"math"
	"slices"
	"strings"
	"testing"

	"terrace/api"
	"terrace/ranges"
)

const (
	first = math.MinInt
	last  = math.MaxInt
)

// edges are the numbers that the chapter and the language make special, as any argument.
var edges = []int{
	first, first + 1, first + 64, -1 << 62, -1 << 32, 1 - 1<<32, -1 << 31, -api.MaxObject, -257, -129, -128, -65, -64, -9, -8, -7, -4, -3, -2, -1,
	0, 1, 2, 3, 4, 5, 6, 7, 8, 9, 10, 11, 15, 16, 31, 32, 33, 62, 63, 64, 65, 127, 128, 129, 255, 256, 257, 1638, 1639, 1640,
	api.MaxObject - 2, api.MaxObject - 1, api.MaxObject, api.MaxObject + 1, 1<<31 - 1, 1 << 31, 1<<32 - 1, 1 << 32, 1<<32 + 1, 1<<32 + 4, 1 << 62, last - 64, last - 1, last,
}

// rows are how many blocks follow one another until the layers begin anew, of 1 to 8 layers.
var rows = []int{1, 2, 4, 8, 16, 32, 64, 128}

// table has the layer of each place in a row.
var table = "0122333344444444" + strings.Repeat("5", 16) + strings.Repeat("6", 32) + strings.Repeat("7", 64)

// where is what the model has of a block.
type where struct{ layer, from, to int }

// plain is a plan with all its blocks written out.
type plain struct {
	size, layers int
	blocks       []where
}

// madePlain goes through the object byte by byte.
func madePlain(size, block, layers int) (*plain, api.Errno) {
	if size < 0 || size > 16384 || block <= 0 || block > 64 || layers <= 0 || layers > 8 {
		return nil, api.ErrRange
	}
	m := &plain{size: size, layers: layers}
	left, place := 0, 0
	for at := range size {
		if left == 0 {
			m.blocks = append(m.blocks, where{layer: int(table[place] - '0'), from: at})
			left, place = block, place+1
			if place == rows[layers-1] {
				place = 0
			}
		}
		m.blocks[len(m.blocks)-1].to = at + 1
		left--
	}
	return m, api.OK
}

// of is each of the layer's blocks.
func (m *plain) of(layer int) []int {
	var list []int
	for b, w := range m.blocks {
		if w.layer == layer {
			list = append(list, b)
		}
	}
	return list
}

// next goes from block to block.
func (m *plain) next(layer, from int) (int, bool) {
	for b := max(from, 0); b < len(m.blocks); b++ {
		if m.blocks[b].layer == layer {
			return b, true
		}
	}
	return 0, false
}

// upto is the blocks of the layers 0 to k as stretches.
func (m *plain) upto(k int) [][2]int {
	var list [][2]int
	for b, w := range m.blocks {
		switch end := len(list) - 1; {
		case w.layer > k:
		case end >= 0 && list[end][1] == b:
			list[end][1]++
		default:
			list = append(list, [2]int{b, b + 1})
		}
	}
	return list
}

// count is how many blocks the layers 0 to k have.
func (m *plain) count(k int) int {
	n := 0
	for _, w := range m.blocks {
		if w.layer <= k {
			n++
		}
	}
	return n
}

// made is a plan of these numbers and the model's, held against each other.
func made(t testing.TB, size, block, layers int) (*Plan, *plain) {
	t.Helper()
	p, e := New(size, block, layers)
	m, want := madePlain(size, block, layers)
	if e != want || (p == nil) != (m == nil) {
		t.Fatalf("New(%d, %d, %d): %v, %d, not %d", size, block, layers, p, e, want)
	}
	if p != nil && (p.Size() != m.size || p.Layers() != m.layers || p.Blocks() != len(m.blocks)) {
		t.Fatalf("New(%d, %d, %d): %d bytes, %d layers, %d blocks, not %d", size, block, layers, p.Size(), p.Layers(), p.Blocks(), len(m.blocks))
	}
	return p, m
}

// block asks for a block's layer and bytes, and holds them against the model.
func block(t testing.TB, p *Plan, m *plain, b int) {
	t.Helper()
	var want where
	errno := api.ErrRange
	if b >= 0 && b < len(m.blocks) {
		want, errno = m.blocks[b], api.OK
	}
	if got, e := p.Layer(b); got != want.layer || e != errno {
		t.Fatalf("%+v: Layer(%d): %d, %d, not %d, %d", *p, b, got, e, want.layer, errno)
	}
	if from, to, e := p.Bytes(b); from != want.from || to != want.to || e != errno {
		t.Fatalf("%+v: Bytes(%d): %d, %d, %d, not %+v, %d", *p, b, from, to, e, want, errno)
	}
}

// of makes the call, goes through all that it tells, and holds it against the model.
func of(t testing.TB, p *Plan, m *plain, layer int) []int {
	t.Helper()
	got := slices.Collect(p.Of(layer))
	if want := m.of(layer); !slices.Equal(got, want) {
		t.Fatalf("%+v: Of(%d): %v, not %v", *p, layer, got, want)
	}
	return got
}

// next makes the call, and holds it against the model.
func next(t testing.TB, p *Plan, m *plain, layer, from int) (int, bool) {
	t.Helper()
	got, ok := p.Next(layer, from)
	if want, is := m.next(layer, from); got != want || ok != is {
		t.Fatalf("%+v: Next(%d, %d): %d, %t, not %d, %t", *p, layer, from, got, ok, want, is)
	}
	return got, ok
}

// upto makes the calls Upto and Count, and holds them against the model.
func upto(t testing.TB, p *Plan, m *plain, k int) *ranges.Set {
	t.Helper()
	set := p.Upto(k)
	if got, want := set.Stretches(), m.upto(k); !slices.Equal(got, want) {
		t.Fatalf("%+v: Upto(%d): %v, not %v", *p, k, got, want)
	}
	if got, want := p.Count(k), m.count(k); got != want || set.Len() != want {
		t.Fatalf("%+v: Count(%d): %d, not %d, Len %d", *p, k, got, want, set.Len())
	}
	return set
}

// holds asks a plan all that it can tell, beside each of these numbers too.
func holds(t testing.TB, p *Plan, m *plain, numbers ...int) {
	t.Helper()
	for _, n := range slices.Concat(numbers, []int{first, -1, 0, 1, m.layers - 1, m.layers, len(m.blocks) - 1, len(m.blocks), len(m.blocks) + 1, last}) {
		block(t, p, m, n)
		of(t, p, m, n)
		upto(t, p, m, n)
		for layer := -1; layer <= api.MaxLayers; layer++ {
			next(t, p, m, layer, n)
			next(t, p, m, n, layer)
		}
	}
	for layer := range api.MaxLayers {
		of(t, p, m, layer)
		upto(t, p, m, layer)
	}
	if p.Size() != m.size || p.Layers() != m.layers || p.Blocks() != len(m.blocks) {
		t.Fatalf("%+v: %d bytes, %d layers, %d blocks", *p, p.Size(), p.Layers(), p.Blocks())
	}
}

// is holds a number against the one that is written out.
func is(t testing.TB, name string, got, want int) {
	t.Helper()
	if got != want {
		t.Fatalf("%s: %d, not %d", name, got, want)
	}
}
