package speed

import (
	"testing"

	"terrace/api"
	"terrace/fix"
)

// floors are those that the chapter makes special.
var floors = []fix.F{1, 2, one - 1, one, one + 1, 1 << 63, highest - 1, highest}

// P19.1: a floor of 0 is none, whatever the rate is.
func TestNewWithoutFloor(t *testing.T) {
	for _, first := range rates {
		s, e := New(0, first)
		errnoIs(t, "New(0, ..)", e, api.ErrRange)
		if s != nil {
			t.Fatalf("New(0, %d): there is a speed", first)
		}
	}
}

// P19.1: a first rate below the floor is none; the floor, a bit above it and all above are.
func TestNewFirst(t *testing.T) {
	for _, floor := range floors {
		for _, first := range []fix.F{0, floor / 2, floor - 1} {
			s, e := New(floor, first)
			errnoIs(t, "New below the floor", e, api.ErrRange)
			if s != nil {
				t.Fatalf("New(%d, %d): there is a speed", floor, first)
			}
		}
		for _, first := range []fix.F{floor, floor.Add(1), highest} {
			s, e := New(floor, first)
			errnoIs(t, "New", e, api.OK)
			if s == nil || s.Rate() != first || s.Floor() != floor {
				t.Fatalf("New(%d, %d): %+v", floor, first, s)
			}
		}
	}
}

// P19.1: all pairs of edges.
func TestNewAnyRates(t *testing.T) {
	for _, floor := range rates {
		for _, first := range rates {
			s, e := New(floor, first)
			p, want := madePlain(floor, first)
			errnoIs(t, "New", e, want)
			if (s == nil) != (p == nil) {
				t.Fatalf("New(%d, %d): %v", floor, first, s)
			}
			if s != nil {
				holds(t, s, p)
			}
		}
	}
}

// P19.1: each speed is one of its own.
func TestNewSpeedsAreTheirOwn(t *testing.T) {
	a, p := made(t, 2*one, 8*one)
	b, q := made(t, 2*one, 8*one)
	left(t, a, p)
	holds(t, b, q)
	free(t, b, q, 20*one, true)
	holds(t, a, p)
	rateIs(t, "the one", a, 4*one)
	rateIs(t, "the other one", b, 16*one)
}

// The chapter's examples.
func TestExamples(t *testing.T) {
	s, e := New(fix.Of(2), fix.Of(8))
	errnoIs(t, "New", e, api.OK)
	errnoIs(t, "Held", s.Held(fix.Of(9), 10, 5), api.OK)
	rateIs(t, "Held(9, 10, 5)", s, 38654705664)
	errnoIs(t, "Held", s.Held(fix.Of(20), 10, 5), api.OK)
	rateIs(t, "Held(20, 10, 5)", s, 47244640256)
	s.Free(fix.Of(3), true)
	rateIs(t, "Free(3, true)", s, 25769803776)
	s.Left()
	rateIs(t, "Left", s, 12884901888)
	s.Left()
	rateIs(t, "Left", s, 8589934592)
	if s.Floor() != 8589934592 {
		t.Fatalf("Floor: %d", s.Floor())
	}
}
