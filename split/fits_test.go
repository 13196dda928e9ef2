package split

import (
	"slices"
	"testing"

	"terrace/fix"
)

// P21.2: no rates, nil and empty: there is no place.
func TestFitsNone(t *testing.T) {
	for _, own := range rates {
		is(t, "Fits of nil", Fits(own, nil), -1)
		is(t, "Fits of none", Fits(own, []fix.F{}), -1)
		is(t, "Fits of none with room", fits(t, own, []fix.F{0, 1, 2}[:0]), -1)
	}
}

// P21.2: one rate: below, just at, and a bit above own.
func TestFitsOne(t *testing.T) {
	for _, own := range rates {
		is(t, "Fits just at", fits(t, own, []fix.F{own}), 0)
		if own > 0 {
			is(t, "Fits below", fits(t, own, []fix.F{own - 1}), 0)
			is(t, "Fits far below", fits(t, own, []fix.F{0}), 0)
		}
		if own < highest {
			is(t, "Fits above", fits(t, own, []fix.F{own + 1}), -1)
			is(t, "Fits far above", fits(t, own, []fix.F{highest}), -1)
		}
	}
}

// P21.2: rising, falling and mixed rates, written out.
func TestFitsWritten(t *testing.T) {
	for _, c := range []struct {
		own   fix.F
		rates []fix.F
		want  int
	}{
		{5, []fix.F{3, 6, 4}, 0},
		{6, []fix.F{3, 6, 4}, 2},
		{3, []fix.F{3, 6, 4}, 0},
		{2, []fix.F{3, 6, 4}, -1},
		{4, []fix.F{3, 6, 4}, 0},
		{5, []fix.F{1, 2, 3, 4, 5, 6, 7}, 4},
		{5, []fix.F{5, 5, 5, 5}, 3},
		{4, []fix.F{5, 5, 5, 5}, -1},
		{5, []fix.F{7, 6, 5, 4, 3}, -1},
		{7, []fix.F{7, 6, 5, 4, 3}, 4},
		{5, []fix.F{6, 0, 0, 0}, -1},
		{5, []fix.F{0, 6, 0, 0}, 0},
		{5, []fix.F{0, 0, 6, 0}, 1},
		{5, []fix.F{0, 0, 0, 6}, 2},
		{5, []fix.F{0, 0, 0, 5}, 3},
		{5, []fix.F{0, 6, 0, 6, 0}, 0},
		{0, []fix.F{0, 0, 1, 0}, 1},
		{0, []fix.F{0, 0, 0}, 2},
		{0, []fix.F{1}, -1},
		{0, []fix.F{highest}, -1},
		{highest, []fix.F{highest, 0, highest, highest - 1}, 3},
		{highest - 1, []fix.F{0, highest - 1, highest, 0}, 1},
		{1<<63 - 1, []fix.F{1<<63 - 1, 1 << 63}, 0},
		{1 << 63, []fix.F{1<<63 - 1, 1 << 63, highest}, 1},
		{one, []fix.F{one - 1, one, one + 1, one}, 1},
	} {
		if got := fits(t, c.own, c.rates); got != c.want {
			t.Errorf("Fits(%d, %v): %d, not %d", c.own, c.rates, got, c.want)
		}
	}
}

// P21.2: every short list of five rates, at own rates beside each.
func TestFitsEveryShortList(t *testing.T) {
	near := []fix.F{0, 4, 5, 6, highest}
	var walk func(list []fix.F)
	walk = func(list []fix.F) {
		for _, own := range near {
			fits(t, own, list)
		}
		if len(list) == 5 {
			return
		}
		for _, rate := range near {
			walk(append(slices.Clone(list), rate))
		}
	}
	walk(nil)
}

// P21.2: many rates, more than layers: none above own, one at each place, and all of them.
func TestFitsMany(t *testing.T) {
	const many = 1 << 16
	list := make([]fix.F, many, many+5)
	for k := range list {
		list[k] = fix.F(k)
	}
	is(t, "Fits of many", Fits(many, list), many-1)
	is(t, "Fits of many", Fits(many-1, list), many-1)
	is(t, "Fits of many", Fits(many-2, list), many-2)
	is(t, "Fits of many", Fits(300, list), 300)
	is(t, "Fits of many", Fits(0, list), 0)
	clear(list)
	for _, at := range []int{0, 1, 7, 8, 255, 256, 257, many/2 + 1, many - 1} {
		list[at] = 1
		is(t, "Fits up to one", Fits(0, list), at-1)
		is(t, "Fits beyond it", Fits(1, list), many-1)
		list[at] = 0
	}
	is(t, "Fits of zeroes", Fits(0, list), many-1)
}

// P21.2: the list is neither changed nor kept, its spare room neither.
func TestFitsLeavesTheList(t *testing.T) {
	room := []fix.F{9, 3, 6, 4, 8, 9}
	list := room[1:4]
	is(t, "Fits", fits(t, 5, list), 0)
	is(t, "Fits", fits(t, 6, list), 2)
	if !slices.Equal(room, []fix.F{9, 3, 6, 4, 8, 9}) {
		t.Fatalf("the list: %v", room)
	}
	list[0] = 7
	is(t, "Fits of what it is now", fits(t, 6, list), -1)
}
