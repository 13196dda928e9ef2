package draws

import (
	"math"
	"math/big"
	"math/rand/v2"
	"slices"
	"testing"
)

// wantDraws are the first ones of a list's draws, one by one, by long numbers: the chapter's sentence as it stands.
func wantDraws(l []uint32, count int) []uint32 {
	all := slices.Clone(l)
	x := uint32(0)
	if len(l) > 0 {
		x = l[len(l)-1]
	}
	word := new(big.Int).Lsh(big.NewInt(1), 32)
	for len(all) < count {
		next := new(big.Int).Mul(big.NewInt(1664525), big.NewInt(int64(x)))
		next.Add(next, big.NewInt(1013904223))
		x = uint32(next.Mod(next, word).Uint64())
		all = append(all, x)
	}
	return all[:count]
}

func randomList(seed uint64, count int) []uint32 {
	source := rand.New(rand.NewPCG(seed, 10))
	list := make([]uint32, 0, count)
	for range count {
		list = append(list, source.Uint32())
	}
	return list
}

// lists are nil, no draws, one and many; with equal ones, and ones that go around behind the last.
func lists() [][]uint32 {
	return [][]uint32{
		nil,
		{},
		{0},
		{1},
		{7},
		{1 << 31},
		{math.MaxUint32 - 1},
		{math.MaxUint32},
		{5, 5, 5},
		{0, 0},
		{math.MaxUint32, 0},
		{0, math.MaxUint32},
		{3, 1 << 31, 2, math.MaxUint32, 0, 9},
		randomList(1, 63),
		randomList(2, 1000),
	}
}

// numbers are those that the chapter and the language make special, and those about a list's end.
func numbers(l []uint32) []int {
	return []int{
		math.MinInt, math.MinInt + 1, -1 << 32, -1 << 16, -2, -1,
		0, 1, 2, 3, 100, len(l) - 1, len(l), len(l) + 1, len(l) + 2,
		1<<16 - 1, 1 << 16, 1<<16 + 1, 1<<16 + 2, 1 << 17,
		1<<31 - 1, 1 << 31, 1<<32 - 1, 1 << 32, 1<<32 + 1, math.MaxInt - 1, math.MaxInt,
	}
}

func wantAt(all []uint32, i int) uint32 {
	if i < 0 || i > 65536 {
		return 0
	}
	return all[i]
}

// checkRest holds what is still to come against the draws from a place on.
func checkRest(t *testing.T, d *Draws, all []uint32, from, count int) {
	t.Helper()
	for i := from; i < from+count; i++ {
		if told := d.Told(); told != i {
			t.Fatalf("Told ahead of draw %d: %d", i, told)
		}
		if got := d.Next(); got != all[i] {
			t.Fatalf("draw %d: %d, not %d", i, got, all[i])
		}
	}
	if told := d.Told(); told != from+count {
		t.Fatalf("Told at the end: %d, not %d", told, from+count)
	}
}

// P10.1: the chapter's example, and the first draws behind some last ones, written out.
func TestNamedDraws(t *testing.T) {
	for _, c := range []struct {
		list, want []uint32
	}{
		{[]uint32{7}, []uint32{7, 1025555898}},
		{[]uint32{9, 7}, []uint32{9, 7, 1025555898}},
		{nil, []uint32{1013904223, 1196435762, 3519870697}},
		{[]uint32{}, []uint32{1013904223, 1196435762, 3519870697}},
		{[]uint32{0}, []uint32{0, 1013904223, 1196435762}},
		{[]uint32{1}, []uint32{1, 1015568748}},
		{[]uint32{math.MaxUint32}, []uint32{math.MaxUint32, 1012239698}},
	} {
		d := New(c.list)
		for i, want := range c.want {
			if at := d.At(i); at != want {
				t.Errorf("%v: At(%d): %d, not %d", c.list, i, at, want)
			}
			if next := d.Next(); next != want {
				t.Errorf("%v: draw %d: %d, not %d", c.list, i, next, want)
			}
		}
	}
}

// P10.1: one by one to the list's last one and behind it, Told behind each call.
func TestNextAndTold(t *testing.T) {
	for _, l := range lists() {
		count := len(l) + 300
		d := New(l)
		if d == nil {
			t.Fatalf("New(%v): nil", l)
		}
		checkRest(t, d, wantDraws(l, count), 0, count)
	}
}

// P10.1: far past the list, and past the numbers that At tells.
func TestNextFarPastTheList(t *testing.T) {
	const count = 200000
	for _, l := range [][]uint32{nil, {7}, randomList(3, 500)} {
		checkRest(t, New(l), wantDraws(l, count), 0, count)
	}
}

// P10.1: At by every number that tells something, and by those that don't, without telling any.
func TestAt(t *testing.T) {
	for _, l := range lists() {
		all := wantDraws(l, 1<<16+3)
		d := New(l)
		for _, i := range numbers(l) {
			if got, want := d.At(i), wantAt(all, i); got != want {
				t.Errorf("list of %d: At(%d): %d, not %d", len(l), i, got, want)
			}
			if told := d.Told(); told != 0 {
				t.Fatalf("Told behind At(%d): %d", i, told)
			}
		}
		checkRest(t, d, all, 0, len(l)+5)
	}
}

func TestAtEveryNumber(t *testing.T) {
	for _, l := range [][]uint32{nil, {7}, randomList(4, 1000)} {
		all := wantDraws(l, 1<<16+1)
		d := New(l)
		for i, want := range all {
			if got := d.At(i); got != want {
				t.Fatalf("list of %d: At(%d): %d, not %d", len(l), i, got, want)
			}
		}
	}
}

// P10.1: a list that goes on past the numbers that At tells; Next tells it all the same.
func TestListPastTheLastNumber(t *testing.T) {
	for _, count := range []int{1 << 16, 1<<16 + 1, 1<<16 + 2, 1<<16 + 50} {
		l := randomList(5, count)
		all := wantDraws(l, count+20)
		d := New(l)
		for _, i := range numbers(l) {
			if got, want := d.At(i), wantAt(all, i); got != want {
				t.Errorf("list of %d: At(%d): %d, not %d", count, i, got, want)
			}
		}
		checkRest(t, d, all, 0, count+20)
	}
}

// P10.1: At is by the number from the beginning on, however many were told, and the next one is as it was.
func TestAtBetweenCallsThatTell(t *testing.T) {
	for _, l := range lists() {
		count := min(len(l), 80) + 20
		all := wantDraws(l, 1<<16+3)
		d := New(l)
		for told := range count {
			for _, i := range numbers(l) {
				if got, want := d.At(i), wantAt(all, i); got != want {
					t.Fatalf("list of %d, %d told: At(%d): %d, not %d", len(l), told, i, got, want)
				}
			}
			if at := d.At(told); at != all[told] {
				t.Fatalf("At of the next one, %d: %d, not %d", told, at, all[told])
			}
			if d.Told() != told {
				t.Fatalf("Told: %d, not %d", d.Told(), told)
			}
			if next := d.Next(); next != all[told] {
				t.Fatalf("draw %d behind At: %d, not %d", told, next, all[told])
			}
			if at := d.At(told); at != all[told] {
				t.Fatalf("At of the one just told, %d: %d, not %d", told, at, all[told])
			}
		}
	}
}

// P10.1: a copy goes on as the first one would, from each place on, whichever of the two goes first.
func TestCopyAtEachPlace(t *testing.T) {
	for _, l := range lists() {
		count := min(len(l), 80) + 20
		all := wantDraws(l, len(l)+2*count)
		for place := range count {
			d := New(l)
			checkRest(t, d, all, 0, place)
			c := d.Copy()
			if c == nil || c == d {
				t.Fatalf("Copy: %p of %p", c, d)
			}
			early := d.Copy()
			checkRest(t, c, all, place, 12)
			checkRest(t, d, all, place, 7)
			checkRest(t, c, all, place+12, 5)
			checkRest(t, early, all, place, 15)
			checkRest(t, d.Copy(), all, place+7, 3)
			checkRest(t, d, all, place+7, 9)
		}
	}
}

// P10.1: At of a copy is At of the first one, also ahead of its place.
func TestAtOfACopy(t *testing.T) {
	for _, l := range lists() {
		d := New(l)
		for range len(l) + 3 {
			d.Next()
		}
		c := d.Copy()
		d.Next()
		all := wantDraws(l, 1<<16+3)
		for _, i := range numbers(l) {
			if got, want := c.At(i), wantAt(all, i); got != want {
				t.Errorf("At(%d) of a copy: %d, not %d", i, got, want)
			}
		}
		if c.Told() != len(l)+3 || d.Told() != len(l)+4 {
			t.Errorf("Told: %d of the copy, %d of the first one", c.Told(), d.Told())
		}
	}
}

// The rule of memory: the list that was handed in is neither kept nor changed, its spare room neither.
func TestListHandedIn(t *testing.T) {
	room := []uint32{1, 2, 3, 4, 5, 6}
	handed := room[:3]
	d := New(handed)
	c := d.Copy()
	all := wantDraws([]uint32{1, 2, 3}, 40)
	for i := range room {
		room[i] = 99
	}
	for i, want := range all {
		if d.At(i) != want || c.At(i) != want {
			t.Fatalf("At(%d) behind a change of the list: %d, %d, not %d", i, d.At(i), c.At(i), want)
		}
	}
	checkRest(t, d, all, 0, 40)
	checkRest(t, c, all, 0, 40)
	d.Copy()
	if !slices.Equal(room, []uint32{99, 99, 99, 99, 99, 99}) {
		t.Errorf("the list that was handed in: %v", room)
	}
}

// The rule of objects: two that were made from one list know nothing of each other.
func TestTwoOfOneList(t *testing.T) {
	l := []uint32{4, 5, 6}
	all := wantDraws(l, 30)
	one, other := New(l), New(l)
	checkRest(t, one, all, 0, 20)
	checkRest(t, other, all, 0, 10)
	checkRest(t, one, all, 20, 10)
	checkRest(t, other, all, 10, 10)
}
