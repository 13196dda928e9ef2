package suppress

import (
	"math/rand/v2"
	"slices"
	"testing"

	"terrace/api"
	"terrace/fix"
	"terrace/logs"
)

// someMosts and someNs are right ones, their ends among them.
var (
	someMosts = []int{0, 1, 2, 3, 7, 100, 65535, 65536, 1<<20 - 1, 1 << 20}
	someNs    = []int{2, 3, 4, 5, 7, 15, 16, 17, 100, 1000, 32767, 32768, 32769, 65535, 65536}
)

// shares are right ones: the ends, those about each power of two, and those about one of so many.
func shares() []fix.F {
	var list []fix.F
	for place := range 33 {
		list = append(list, about(1<<place)...)
	}
	for _, n := range someNs {
		list = append(list, about(fix.Ratio(1, uint64(n)))...)
	}
	for sixteenths := range fix.F(16) {
		list = append(list, about(one/2+one/32*sixteenths)...)
	}
	slices.Sort(list)
	return slices.Compact(list)
}

// about is a share and those a bit or two beside it, as far as they are shares.
func about(share fix.F) []fix.F {
	var list []fix.F
	for less := range fix.F(5) {
		if s := share + 2 - less; s > 0 && s <= one {
			list = append(list, s)
		}
	}
	return list
}

// waits holds a wait against the model.
func waits(t testing.TB, share fix.F, most, n int) int {
	t.Helper()
	got, e := Wait(share, most, n)
	want, wantE := plainWait(share, most, n)
	if got != want || e != wantE {
		t.Fatalf("Wait(%d, %d, %d): %d and %d, not %d and %d", share, most, n, got, e, want, wantE)
	}
	if got < 0 || e != api.OK && got != 0 || e == api.OK && got > most {
		t.Fatalf("Wait(%d, %d, %d): %d is not from 0 to most", share, most, n, got)
	}
	return got
}

// P17.1: the chapter's examples.
func TestExamples(t *testing.T) {
	for _, c := range []struct {
		share fix.F
		wait  int
	}{{fix.One, 100}, {fix.Ratio(1, 4), 50}, {fix.Ratio(1, 16), 0}} {
		if w, e := Wait(c.share, 100, 16); w != c.wait || e != api.OK {
			t.Errorf("Wait(%d, 100, 16): %d and %d, not %d", c.share, w, e, c.wait)
		}
	}
}

// P17.1: waits that are written out.
func TestWrittenOut(t *testing.T) {
	for _, c := range []struct {
		share         fix.F
		most, n, wait int
	}{
		{1, 100, 2, 0}, {2, 1 << 20, 65536, 0}, {3, 1 << 20, 65536, 0},
		{one / 2, 1, 16, 0}, {one / 2, 100, 2, 0}, {one / 2, 100, 3, 36}, {one / 2, 100, 16, 75}, {one / 2, 100, 65536, 93},
		{one / 2, 1 << 20, 2, 0}, {one / 2, 1 << 20, 3, 387150}, {one / 2, 1 << 20, 16, 786432}, {one / 2, 1 << 20, 65536, 983040},
		{one/2 - 1, 100, 16, 74}, {one/2 - 1, 1 << 20, 3, 387140}, {one/2 - 1, 1 << 20, 16, 786428}, {one/2 - 1, 1 << 20, 65536, 983039},
		{3 * one / 4, 1, 2, 0}, {3 * one / 4, 100, 2, 58}, {3 * one / 4, 100, 3, 73}, {3 * one / 4, 100, 16, 89}, {3 * one / 4, 100, 65536, 97},
		{3 * one / 4, 1 << 20, 2, 613376}, {3 * one / 4, 1 << 20, 3, 774058}, {3 * one / 4, 1 << 20, 16, 939776}, {3 * one / 4, 1 << 20, 65536, 1021376},
		{one - 1, 1, 2, 0}, {one - 1, 1, 65536, 0}, {one - 1, 100, 2, 99}, {one - 1, 100, 65536, 99},
		{one - 1, 1 << 20, 2, 1048560}, {one - 1, 1 << 20, 3, 1048565}, {one - 1, 1 << 20, 16, 1048572}, {one - 1, 1 << 20, 65536, 1048575},
		{one, 0, 2, 0}, {one, 1, 2, 1}, {one, 1, 65536, 1}, {one, 1 << 20, 2, 1048576}, {one, 1 << 20, 65536, 1048576},
	} {
		if w, e := Wait(c.share, c.most, c.n); w != c.wait || e != api.OK {
			t.Errorf("Wait(%d, %d, %d): %d and %d, not %d", c.share, c.most, c.n, w, e, c.wait)
		}
		waits(t, c.share, c.most, c.n)
	}
}

// P17.1: which shares, mosts and ns are refused, each alone and all together, with nothing beside it.
func TestRefusedWaits(t *testing.T) {
	type number struct {
		n     int
		right bool
	}
	mosts := []number{{first, false}, {-1, false}, {0, true}, {1, true}, {1 << 20, true}, {1<<20 + 1, false}, {1<<32 + 1, false}, {last, false}}
	ns := []number{{first, false}, {-1, false}, {0, false}, {1, false}, {2, true}, {3, true}, {1 << 16, true}, {1<<16 + 1, false}, {1<<32 + 2, false}, {last, false}}
	for _, share := range []struct {
		f     fix.F
		right bool
	}{{0, false}, {1, true}, {2, true}, {5, true}, {one - 1, true}, {one, true}, {one + 1, false}, {2 * one, false}, {1 << 63, false}, {fix.Max - 1, false}, {fix.Max, false}} {
		for _, most := range mosts {
			for _, n := range ns {
				want := api.ErrRange
				if share.right && most.right && n.right {
					want = api.OK
				}
				w, e := Wait(share.f, most.n, n.n)
				if e != want || w < 0 || w > max(most.n, 0) || e != api.OK && w != 0 {
					t.Errorf("Wait(%d, %d, %d): %d and %d, not %d", share.f, most.n, n.n, w, e, want)
				}
				waits(t, share.f, most.n, n.n)
			}
		}
	}
}

// P17.1: the greatest share at which there is no wait, and the next one, written out: it is one of n, or a bit above it where that is rounded.
func TestNoWaitForTheLastTime(t *testing.T) {
	for _, c := range []struct {
		most, n int
		share   fix.F
		next    int
	}{
		{1, 2, 4294967295, 1}, {1, 16, 4294967295, 1}, {1, 65536, 4294967295, 1},
		{2, 2, 3037701969, 1}, {2, 3, 2480297403, 1}, {2, 16, 1073741823, 1}, {2, 1000, 135829008, 1}, {2, 65536, 16777215, 1},
		{100, 2, 2162844225, 1}, {100, 3, 1447494555, 1}, {100, 16, 276109890, 1}, {100, 1000, 4602024, 1}, {100, 65536, 73235, 1},
		{1 << 20, 2, 2147507063, 16}, {1 << 20, 3, 1431655765, 10}, {1 << 20, 16, 268438382, 4}, {1 << 20, 1000, 4295009, 1}, {1 << 20, 65536, 65536, 1},
	} {
		if w, e := Wait(c.share, c.most, c.n); w != 0 || e != api.OK {
			t.Errorf("Wait(%d, %d, %d): %d and %d, not 0", c.share, c.most, c.n, w, e)
		}
		if w, e := Wait(c.share+1, c.most, c.n); w != c.next || e != api.OK {
			t.Errorf("Wait(%d, %d, %d): %d and %d, not %d", c.share+1, c.most, c.n, w, e, c.next)
		}
	}
}

// P17.1: one of n and all shares below it have no wait, whatever most is.
func TestOneOfN(t *testing.T) {
	for n := 2; n <= 65536; n += 1 + n/40 {
		share := fix.Ratio(1, uint64(n))
		for _, most := range someMosts {
			for _, s := range about(share) {
				w := waits(t, s, most, n)
				if s <= share && w != 0 {
					t.Fatalf("Wait(%d, %d, %d): %d, not 0", s, most, n, w)
				}
			}
		}
	}
}

// P17.1: nothing is waited of no ticks, and all of them at the share of all.
func TestNoneAndAll(t *testing.T) {
	for _, n := range someNs {
		for _, share := range shares() {
			if w := waits(t, share, 0, n); w != 0 {
				t.Fatalf("Wait(%d, 0, %d): %d", share, n, w)
			}
		}
		for _, most := range someMosts {
			if w := waits(t, one, most, n); w != most {
				t.Fatalf("Wait(One, %d, %d): %d", most, n, w)
			}
		}
	}
}

// P17.1: a greater share never waits less.
func TestGreaterShares(t *testing.T) {
	list := shares()
	for _, most := range someMosts {
		for _, n := range someNs {
			ahead := 0
			for _, share := range list {
				w := waits(t, share, most, n)
				if w < ahead {
					t.Fatalf("Wait(%d, %d, %d): %d, but %d of a lesser share", share, most, n, w, ahead)
				}
				ahead = w
			}
		}
	}
}

// P17.1: a greater share never waits less, from bit to bit and over any two, and no wait is above most.
func TestAnyTwoShares(t *testing.T) {
	r := rand.New(rand.NewPCG(17, 1))
	for range 100000 {
		a, b := 1+fix.F(r.Uint64N(one))>>r.IntN(33), 1+fix.F(r.Uint64N(one))>>r.IntN(33)
		if r.IntN(3) == 0 {
			b = min(a+fix.F(r.IntN(4)), one)
		}
		most, n := r.IntN(1<<20+1)>>r.IntN(21), min(2+r.IntN(1<<16-1)>>r.IntN(17), 1<<16)
		if waits(t, min(a, b), most, n) > waits(t, max(a, b), most, n) {
			t.Fatalf("most %d, n %d: %d waits longer than %d", most, n, min(a, b), max(a, b))
		}
	}
}

// P17.1: a share of which so many less would have no wait waits the part of most that its logarithm says.
func TestPowers(t *testing.T) {
	for halvings := 1; halvings <= 16; halvings++ {
		for k := range 33 {
			want := max(halvings-k, 0) * (1 << 20)
			if w := waits(t, fix.One.Half(k), 1<<20, 1<<halvings); w*halvings < want-halvings || w*halvings > want+halvings {
				t.Fatalf("One, halved %d times, among %d: %d", k, 1<<halvings, w)
			}
		}
	}
	if logs.Neg(fix.One) != 0 || logs.Neg(fix.One.Half(16)) != fix.Of(16) {
		t.Fatal("Neg")
	}
}

// P17.1: a wait hangs on nothing but what it is told.
func TestWaitsAgain(t *testing.T) {
	for range 3 {
		for _, share := range []fix.F{0, 7, one / 3, one, one + 1} {
			waits(t, share, 1000, 100)
			waits(t, share, -1, 100)
			waits(t, share, 1000, 1)
		}
	}
}

// P1, P17.1: every row of edges as most and n, at any share.
func TestAnyWait(t *testing.T) {
	for _, share := range append([]fix.F{one + 1, one + 2, 2 * one}, rates...) {
		for _, most := range edges {
			for _, n := range edges {
				waits(t, share, most, n)
			}
		}
	}
}
