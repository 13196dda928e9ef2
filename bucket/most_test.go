package bucket

import (
	"math/rand/v2"
	"slices"
	"testing"

	"terrace/fix"
)

// most makes the call, holds what is answered, and that the list isn't changed, its spare room neither.
func most(t testing.TB, list []fix.F, size int) uint64 {
	t.Helper()
	room := append(slices.Clone(list), 12345, 67890)
	got := Most(room[:len(list):len(room)], size)
	if want := mostPlain(list, size); got != want {
		t.Fatalf("Most of %d rates, %d: %d, not %d", len(list), size, got, want)
	}
	if !slices.Equal(room, append(slices.Clone(list), 12345, 67890)) {
		t.Fatalf("Most(.., %d): the list is changed", size)
	}
	return got
}

// P20.2: written out: no rates, one, many, parts that come to a whole one and such that don't quite, and sums above all.
func TestMostWrittenOut(t *testing.T) {
	for i, c := range []struct {
		rates []fix.F
		size  int
		want  uint64
	}{
		{nil, 1, 1}, {[]fix.F{}, 1, 1}, {nil, 320, 320}, {[]fix.F{}, 320, 320},
		{[]fix.F{0}, 10, 10}, {[]fix.F{1}, 10, 10}, {[]fix.F{one - 1}, 10, 10}, {[]fix.F{one}, 10, 11}, {[]fix.F{one + 1}, 10, 11},
		{[]fix.F{3 * one, one / 2, one / 4 * 3}, 10, 14}, {[]fix.F{one / 2, one / 2}, 10, 11}, {[]fix.F{one / 2, one/2 - 1}, 10, 10},
		{[]fix.F{one / 3, one / 3, one / 3}, 10, 10}, {[]fix.F{one / 3, one / 3, one/3 + 1}, 10, 11},
		{[]fix.F{one - 1, 1, one - 1, 1}, 320, 322}, {[]fix.F{one - 1, 0, one - 1, 1}, 320, 321},
		{[]fix.F{highest - 10*one}, 10, 4294967295}, {[]fix.F{highest - 11*one}, 10, 4294967294}, {[]fix.F{highest - 11*one, 1}, 10, 4294967295},
		{[]fix.F{highest - 10*one + 1}, 10, 4294967295}, {[]fix.F{highest}, 1, 4294967295}, {[]fix.F{highest, highest}, 320, 4294967295},
		{[]fix.F{1 << 63, 1 << 63}, 1, 4294967295}, {[]fix.F{highest, 1, 0, one}, 320, 4294967295}, {[]fix.F{1, highest, highest, one}, 1, 4294967295},
	} {
		if got := most(t, c.rates, c.size); got != c.want {
			t.Fatalf("%d: %d, not %d", i, got, c.want)
		}
	}
}

// P20.2: every size that a bucket can have, with each edge alone, and with all pairs of them.
func TestMostEdges(t *testing.T) {
	for size := 1; size <= 320; size++ {
		most(t, nil, size)
		for _, x := range rates {
			most(t, []fix.F{x}, size)
		}
	}
	for _, size := range sizes {
		for _, x := range rates {
			for _, y := range rates {
				most(t, []fix.F{x, y}, size)
			}
		}
	}
}

// P20.2: many rates, in any order.
func TestMostMany(t *testing.T) {
	full := 0
	for seed := range uint64(300) {
		x := rand.New(rand.NewPCG(202, seed))
		list := make([]fix.F, x.IntN(300))
		less := 20 + x.IntN(24)
		for i := range list {
			list[i] = fix.F(x.Uint64() >> min(63, less+x.IntN(64-less)))
			if seed%3 == 0 {
				list[i] = fix.F(x.Uint64() >> (x.IntN(12)))
			}
		}
		size := 1 + x.IntN(320)
		got := most(t, list, size)
		if got == 1<<32-1 {
			full++
		}
		x.Shuffle(len(list), func(i, j int) { list[i], list[j] = list[j], list[i] })
		if again := most(t, list, size); again != got {
			t.Fatalf("in another order: %d, not %d", again, got)
		}
	}
	if full < 30 || full > 270 {
		t.Fatalf("%d sums are above all", full)
	}
}

// P20.2: a list of some million rates.
func TestMostLong(t *testing.T) {
	list := make([]fix.F, 1<<22)
	for i := range list {
		list[i] = one/4 + 1
	}
	if got := Most(list, 7); got != 1<<20+7 {
		t.Fatalf("Most: %d", got)
	}
	for i := range list {
		list[i] = 1024*one - 1
	}
	if got := Most(list, 1); got != 1<<32-1 {
		t.Fatalf("Most: %d", got)
	}
	if got := Most(list[:1<<22-1], 320); got != 1<<32-1024+320-1 {
		t.Fatalf("Most: %d", got)
	}
}

// P1: any size, with no rates and with each edge: a size below 0 is no bytes, one above all numbers is as many as there are.
func TestMostAnySize(t *testing.T) {
	for _, size := range edges {
		for _, list := range [][]fix.F{nil, {}, {0}, {one}, {one - 1, 1, 5}, {highest}, {highest, highest}} {
			got := Most(list, size)
			if want := mostPlain(list, min(max(size, 0), 1<<32-1)); got != want {
				t.Fatalf("Most of %d rates, %d: %d, not %d", len(list), size, got, want)
			}
		}
	}
}
