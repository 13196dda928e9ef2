package clr

import (
	"testing"

	"terrace/api"
	"terrace/fix"
)

// P18.2: what the CLR told last is told as it was, with its tick and its rate.
func TestCLR(t *testing.T) {
	b, p := made(t, 20)
	isTold(t, "CLR of an empty book", b.CLR, Told{}, false)
	take(t, b, p, Told{0, 0, 0}, 0)
	isTold(t, "CLR of noughts", b.CLR, Told{}, true)
	take(t, b, p, Told{0, 3, highest}, 9)
	isTold(t, "CLR", b.CLR, Told{0, 3, highest}, true)
	take(t, b, p, Told{5, 2, highest - 1}, 9)
	isTold(t, "CLR", b.CLR, Told{5, 2, highest - 1}, true)
	leave(t, b, p, 5)
	isTold(t, "CLR of a book without one", b.CLR, Told{}, false)
}

// P18.2: what a receiver told last, ErrNone and a zero one of whom nothing is known, whatever number it has.
func TestOf(t *testing.T) {
	b, p := made(t, 20)
	for _, r := range append([]int{first, -1, 0, 63, 64, last}, edges...) {
		got, e := of(t, b, p, r)
		if got != (Told{}) || e != api.ErrNone {
			t.Fatalf("Of(%d) of an empty book: %+v, %d", r, got, e)
		}
	}
	for r := range 64 {
		take(t, b, p, Told{r, 100 + r, fix.F(r)}, 100+r)
	}
	for _, r := range edges {
		got, e := of(t, b, p, r)
		switch {
		case r < 0 || r > 63:
			if got != (Told{}) || e != api.ErrNone {
				t.Fatalf("Of(%d): %+v, %d", r, got, e)
			}
		case got != Told{r, 100 + r, fix.F(r)} || e != api.OK:
			t.Fatalf("Of(%d): %+v, %d", r, got, e)
		}
	}
	take(t, b, p, Told{7, 110, 3}, 110)
	if got, e := of(t, b, p, 7); got != (Told{7, 110, 3}) || e != api.OK {
		t.Fatalf("Of(7): %+v, %d", got, e)
	}
	leave(t, b, p, 7)
	if got, e := of(t, b, p, 7); got != (Told{}) || e != api.ErrNone {
		t.Fatalf("Of(7) behind Leave: %+v, %d", got, e)
	}
}

// P18.2: of two of the same rate the lesser receiver's is the least, whichever told first, and whichever is the CLR.
func TestLeastOfTheSame(t *testing.T) {
	for _, pair := range [][2]int{{1, 2}, {2, 1}, {0, 63}, {63, 0}, {31, 32}, {32, 31}} {
		for _, rate := range rates {
			b, p := taken(t, 20, Told{pair[0], 5, rate}, Told{pair[1], 5, rate})
			isTold(t, "Least", b.Least, Told{min(pair[0], pair[1]), 5, rate}, true)
			clrIs(t, b, pair[0])
			leave(t, b, p, min(pair[0], pair[1]))
			isTold(t, "Least", b.Least, Told{max(pair[0], pair[1]), 5, rate}, true)
			leave(t, b, p, max(pair[0], pair[1]))
			isTold(t, "Least", b.Least, Told{}, false)
		}
	}
}

// P18.2: the least rate of all that is known counts, not the CLR's, nor one that was told ahead.
func TestLeast(t *testing.T) {
	b, p := made(t, 20)
	isTold(t, "Least of an empty book", b.Least, Told{}, false)
	for _, c := range []struct {
		r    Told
		want Told
	}{
		{Told{5, 1, 50}, Told{5, 1, 50}},
		{Told{3, 2, 51}, Told{5, 1, 50}},
		{Told{9, 3, 49}, Told{9, 3, 49}},
		{Told{9, 4, 60}, Told{5, 1, 50}},
		{Told{5, 5, 52}, Told{3, 2, 51}},
		{Told{4, 5, 51}, Told{3, 2, 51}},
		{Told{2, 5, 51}, Told{2, 5, 51}},
		{Told{63, 5, 0}, Told{63, 5, 0}},
		{Told{0, 5, 0}, Told{0, 5, 0}},
		{Told{0, 5, highest}, Told{63, 5, 0}},
	} {
		errnoIs(t, "Take", take(t, b, p, c.r, 5), api.OK)
		isTold(t, "Least", b.Least, c.want, true)
	}
	is(t, "Leave", leave(t, b, p, 63), true)
	isTold(t, "Least behind Leave", b.Least, Told{2, 5, 51}, true)
	is(t, "Leave", leave(t, b, p, 2), false)
	isTold(t, "Least behind Leave", b.Least, Told{3, 2, 51}, true)
}

// P18.2: behind a Pass the CLR's rate isn't among those that are known any more.
func TestLeastBehindPass(t *testing.T) {
	b, p := taken(t, 20, Told{1, 5, 10}, Told{3, 7, 12}, Told{2, 6, 12})
	is(t, "Pass at the limit", pass(t, b, p, 25), false)
	isTold(t, "Least", b.Least, Told{1, 5, 10}, true)
	is(t, "Pass", pass(t, b, p, 26), true)
	isTold(t, "Least", b.Least, Told{2, 6, 12}, true)
	b, p = taken(t, 20, Told{1, 5, 10})
	is(t, "Pass", pass(t, b, p, 26), true)
	isTold(t, "Least of a book that is empty again", b.Least, Told{}, false)
}

// count holds the number against the one that is written out.
func count(t testing.TB, b *Book, want int) {
	t.Helper()
	if b.Count() != want {
		t.Fatalf("Count: %d, not %d", b.Count(), want)
	}
}

// P18.2: of how many something is known, behind each call, up to all receivers and down again.
func TestCount(t *testing.T) {
	for _, step := range []int{1, 5, 27, 63} { // none has anything in common with 64, so that each goes through all
		b, p := made(t, 20)
		count(t, b, 0)
		for n := range 64 {
			r := n * step % 64
			errnoIs(t, "Take", take(t, b, p, Told{r, 10, fix.F(100 + n)}, 10), api.OK)
			count(t, b, n+1)
			errnoIs(t, "Take once again", take(t, b, p, Told{r, 11, fix.F(100 + n)}, 11), api.OK)
			errnoIs(t, "Take of a stale one", take(t, b, p, Told{r, 10, 0}, 11), api.ErrStale)
			errnoIs(t, "Take of a wrong one", take(t, b, p, Told{64, 10, 0}, 11), api.ErrRange)
			count(t, b, n+1)
		}
		clrIs(t, b, 0)
		is(t, "Pass", pass(t, b, p, 32), true)
		count(t, b, 63)
		for n := 1; n < 64; n++ {
			is(t, "Leave", leave(t, b, p, n*step*3%64), false)
			count(t, b, 63-n)
			is(t, "Leave once again", leave(t, b, p, n*step*3%64), false)
			count(t, b, 63-n)
		}
		errnoIs(t, "Take by an empty book", take(t, b, p, Told{9, 0, 1}, 0), api.OK)
		count(t, b, 1)
	}
}

// P18.2: telling changes nothing, however often it is done.
func TestTellingChangesNothing(t *testing.T) {
	b, p := taken(t, 20, Told{1, 5, 10}, Told{2, 6, 8}, Told{2, 7, 20})
	for range 5 {
		holds(t, b, p)
		isTold(t, "CLR", b.CLR, Told{2, 7, 20}, true)
		isTold(t, "Least", b.Least, Told{1, 5, 10}, true)
		count(t, b, 2)
	}
}

// P18.2: what is told is a value: to change it changes nothing in the book.
func TestToldIsAValue(t *testing.T) {
	b, p := made(t, 20)
	r := Told{1, 5, 10}
	take(t, b, p, r, 5)
	r.Rate, r.Tick = 3, 0
	holds(t, b, p)
	clr, _ := b.CLR()
	least, _ := b.Least()
	known, _ := b.Of(1)
	clr.Rate, least.Tick, known.From = 0, 9, 7
	holds(t, b, p)
	isTold(t, "CLR", b.CLR, Told{1, 5, 10}, true)
}
