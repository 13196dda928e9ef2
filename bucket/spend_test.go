package bucket

import (
	"testing"

	"terrace/fix"
)

// beside are tokens beside n bytes, and the ends.
func beside(n int) []fix.F {
	bytes := fix.Of(uint32(n))
	return []fix.F{0, bytes.Sub(1), bytes, bytes.Add(1), highest}
}

// P20.1: Can and Spend of each edge, at each size, with tokens beside it.
func TestSpendAnyNumber(t *testing.T) {
	fine := 0
	for _, size := range sizes {
		for _, n := range append([]int{size - 1, size, size + 1, size + 256, size + 1<<32}, edges...) {
			for _, tokens := range append(beside(min(max(n, 0), 400)), beside(size)...) {
				b, p := filled(t, size, tokens)
				if spend(t, b, p, n) {
					fine++
					tells(t, "Spend", b, tokens-fix.F(n)<<32, n)
				} else {
					tells(t, "Spend, refused", b, tokens, 0)
				}
			}
		}
	}
	if fine == 0 {
		t.Fatal("none was fine")
	}
}

// P20.1: there must be as many tokens as bytes, to the bit.
func TestSpendJustEnough(t *testing.T) {
	for size := 1; size <= 320; size += 11 {
		for n := 1; n <= size; n++ {
			bytes := fix.Of(uint32(n))
			for _, c := range []struct {
				tokens, left fix.F
				want         bool
			}{{0, 0, false}, {bytes - 1, bytes - 1, false}, {bytes, 0, true}, {bytes + 1, 1, true}, {highest, highest - bytes, true}} {
				b, err := New(size)
				errnoIs(t, "New", err, 0)
				b.Fill(c.tokens)
				is(t, "Can", b.Can(n), c.want)
				tells(t, "Can", b, c.tokens, 0)
				is(t, "Spend", b.Spend(n), c.want)
				if c.want {
					tells(t, "Spend", b, c.left, n)
				} else {
					tells(t, "Spend, refused", b, c.left, 0)
				}
			}
		}
	}
}

// P20.1: what isn't from 1 to the size can't be spent, however many tokens there are.
func TestSpendOutOfSize(t *testing.T) {
	for _, size := range sizes {
		b, p := filled(t, size, highest)
		for _, n := range []int{first, -1 << 32, 1 - 1<<32, -size, -1, 0, size + 1, 321, 1 << 32, 1<<32 + 1, 1<<32 + size, last} {
			is(t, "Can", can(t, b, p, n), false)
			is(t, "Spend", spend(t, b, p, n), false)
			tells(t, "refused", b, highest, 0)
		}
		is(t, "Spend(1)", spend(t, b, p, 1), true)
		is(t, "Spend(size)", spend(t, b, p, size), true)
		tells(t, "fine", b, highest-fix.F(size+1)<<32, size+1)
	}
}

// P20.1: several in one tick, of different sizes, until there are too few tokens; a lesser one may still go.
func TestSpendSeveral(t *testing.T) {
	b, p := filled(t, 10, 30*one+one/2)
	for i, c := range []struct {
		n     int
		want  bool
		left  fix.F
		spent int
	}{
		{10, true, 20*one + one/2, 10}, {11, false, 20*one + one/2, 10}, {7, true, 13*one + one/2, 17}, {10, true, 3*one + one/2, 27},
		{4, false, 3*one + one/2, 27}, {10, false, 3*one + one/2, 27}, {2, true, one + one/2, 29}, {2, false, one + one/2, 29},
		{0, false, one + one/2, 29}, {1, true, one / 2, 30}, {1, false, one / 2, 30}, {-1, false, one / 2, 30},
	} {
		is(t, "Can", can(t, b, p, c.n), c.want)
		is(t, "Spend", spend(t, b, p, c.n), c.want)
		if b.Tokens() != c.left || b.Spent() != c.spent {
			t.Fatalf("%d: %d, %d", i, b.Tokens(), b.Spent())
		}
	}
	end(t, b, p)
	tells(t, "End", b, one/2, 30)
}

// P20.1: what is refused changes nothing that a later call could tell.
func TestSpendRefusedChangesNothing(t *testing.T) {
	for _, n := range edges {
		b, p := filled(t, 10, 9*one+7)
		if p.can(n) {
			continue
		}
		for range 3 {
			is(t, "Spend", spend(t, b, p, n), false)
		}
		is(t, "Spend(9)", spend(t, b, p, 9), true)
		tells(t, "Spend(9)", b, 7, 9)
		end(t, b, p)
		fill(t, b, p, 12*one)
		tells(t, "Fill", b, 12*one+7, 9)
	}
}

// P20.1: Can as often as one likes changes nothing.
func TestCanChangesNothing(t *testing.T) {
	b, p := filled(t, 10, 10*one)
	for range 5 {
		for n := range 13 {
			is(t, "Can", can(t, b, p, n), n >= 1 && n <= 10)
			tells(t, "Can", b, 10*one, 0)
		}
	}
}

// P20.1: the count goes on over ticks and is never less, whatever else is done.
func TestSpentGoesOn(t *testing.T) {
	b, p := made(t, 320)
	want := 0
	for tick := range 1000 {
		fill(t, b, p, highest)
		for _, n := range []int{320, 1 + tick%320, 321, 0} {
			if spend(t, b, p, n) {
				want += n
			}
		}
		end(t, b, p)
		tells(t, "End", b, 320*one, want)
	}
}

// Others may look at what was spent while there is spent: they see whole packets, and never less than ahead.
func TestSpentIsSeenByOthers(t *testing.T) {
	const packets = 20000
	b, p := made(t, 7)
	p.fill(highest)
	b.Fill(highest)
	looked, done := make(chan string), make(chan struct{})
	for range 4 {
		go func() { looked <- look(b, done) }()
	}
	for range packets {
		b.Spend(7)
	}
	close(done)
	for range 4 {
		if fault := <-looked; fault != "" {
			t.Error(fault)
		}
	}
	tells(t, "at the end", b, highest-7*packets*one, 7*packets)
}

// look asks again and again until done is closed, and tells what was wrong.
func look(b *Bucket, done chan struct{}) string {
	for was := 0; ; {
		now := b.Spent()
		if now < was || now%7 != 0 {
			return "Spent goes back, or tells a part of a packet"
		}
		was = now
		select {
		case <-done:
			return ""
		default:
		}
	}
}
