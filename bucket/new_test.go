package bucket

import (
	"testing"

	"terrace/api"
	"terrace/fix"
)

// P20.1: a size that isn't from 1 to MaxPacket is none.
func TestNewRefused(t *testing.T) {
	for _, size := range []int{first, -1 << 32, 10 - 1<<32, -1, 0, api.MaxPacket + 1, 1<<32 + 10, last} {
		b, e := New(size)
		errnoIs(t, "New", e, api.ErrRange)
		if b != nil {
			t.Fatalf("New(%d): there is a bucket", size)
		}
	}
}

// P20.1: every size from 1 to MaxPacket is one, and empty.
func TestNewIsEmpty(t *testing.T) {
	for size := 1; size <= 320; size++ {
		b, e := New(size)
		errnoIs(t, "New", e, api.OK)
		if b == nil {
			t.Fatalf("New(%d): there is no bucket", size)
		}
		tells(t, "New", b, 0, 0)
		for n := range 322 {
			is(t, "Can, empty", b.Can(n), false)
			is(t, "Spend, empty", b.Spend(n), false)
		}
		b.End()
		tells(t, "End, empty", b, 0, 0)
	}
}

// P20.1: all edges.
func TestNewAnySize(t *testing.T) {
	for _, size := range edges {
		b, e := New(size)
		p, want := madePlain(size)
		errnoIs(t, "New", e, want)
		if (b == nil) != (p == nil) {
			t.Fatalf("New(%d): %v", size, b)
		}
		if b != nil {
			holds(t, b, p)
		}
	}
}

// P20.1: each bucket is one of its own.
func TestNewBucketsAreTheirOwn(t *testing.T) {
	a, p := filled(t, 10, 20*one)
	b, q := made(t, 10)
	holds(t, b, q)
	is(t, "Spend", spend(t, a, p, 7), true)
	holds(t, b, q)
	fill(t, b, q, 3*one)
	holds(t, a, p)
	tells(t, "the one", a, 13*one, 7)
	tells(t, "the other one", b, 3*one, 0)
}

// The chapter's example.
func TestExample(t *testing.T) {
	b, e := New(10)
	errnoIs(t, "New", e, api.OK)
	for tick, want := range []bool{false, false, true} {
		b.Fill(fix.Of(4))
		if b.Can(9) != want || b.Spend(9) != want {
			t.Fatalf("tick %d: %d", tick, b.Tokens())
		}
		b.End()
	}
	tells(t, "behind the third tick", b, 12884901888, 9)
}
