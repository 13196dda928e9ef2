package simnet

import (
	"math/rand/v2"
	"strings"
	"testing"

	"terrace/api"
)

// P13.3: the chapter's example: a member gets at 5 what was sent at 3.
func TestExample(t *testing.T) {
	n, p := joined(t, Config{Delay: 2, Room: 8}, nil, 0, -1)
	do(t, n, p, send(0, "a", 3), up(1, "b", 3))
	tells(t, n, 0, 4)
	tellsSender(t, n, 4)
	tells(t, n, 0, 5, "a")
	tells(t, n, 1, 5)
	tellsSender(t, n, 5, "b")
	tells(t, n, 0, 5)
	tellsSender(t, n, 5)
}

// P13.3: what is due at the tick of arriving, not ahead of it, and still far behind, for each delay.
func TestDelays(t *testing.T) {
	for delay := 0; delay <= 64; delay++ {
		for _, now := range []int{100 + delay, 101 + delay, 1100 + delay, api.MaxTick, last} {
			n, p := joined(t, Config{Delay: delay, Room: 8}, nil, 0)
			do(t, n, p, send(0, "a", 100), up(0, "b", 100))
			for _, early := range []int{first, -1, 0, 99, 99 + delay} {
				tells(t, n, 0, early)
				tellsSender(t, n, early)
			}
			tells(t, n, 0, now, "a")
			tellsSender(t, n, now, "b")
		}
	}
}

// P13.3: with a delay of 0 what was sent at a tick arrives at it.
func TestNoDelay(t *testing.T) {
	n, p := joined(t, Config{Room: 8}, []Fate{{}, {}, {Kind: 3, N: -1}, {Kind: 3, N: 1}}, 0)
	do(t, n, p, send(0, "a", 0), up(0, "b", 0), send(0, "c", 0), send(0, "d", 0))
	tells(t, n, 0, -1)
	tells(t, n, 0, 0, "a", "c")
	tellsSender(t, n, 0, "b")
	tells(t, n, 0, 0)
	tells(t, n, 0, 1, "d")
}

// P13.3: of one tick in the order in which they were sent, of several the earlier ones first, however they were sent.
func TestOrder(t *testing.T) {
	n, p := joined(t, Config{Delay: 2, Room: 16}, nil, 0)
	do(t, n, p, send(0, "a", 5), send(0, "b", 3), send(0, "c", 5), send(0, "d", 4), send(0, "e", 3), send(0, "f", 5))
	tells(t, n, 0, 4)
	tells(t, n, 0, 6, "b", "e", "d")
	do(t, n, p.without(0, 6), send(0, "g", 3))
	tells(t, n, 0, 7, "g", "a", "c", "f")
}

// P13.3: a late one comes between others: behind those that were due at its tick and were put ahead of it, ahead of those put later.
func TestLateBetweenOthers(t *testing.T) {
	for _, to := range []string{"receiver", "sender"} {
		n, p := joined(t, Config{Delay: 1, Room: 16}, []Fate{{Kind: 3, N: 2}, {}, {Kind: 3, N: 1}, {}, {}, {Kind: 3, N: 64}}, 0)
		for i, now := range []int{10, 10, 11, 11, 12, 12, 13} {
			text := string([]byte{byte('a' + i)})
			if to == "sender" {
				up(0, text, now)(t, n, p)
			} else {
				send(0, text, now)(t, n, p)
			}
			holds(t, n, p)
		}
		tell := func(now int, want ...string) {
			t.Helper()
			if to == "sender" {
				tellsSender(t, n, now, want...)
				return
			}
			tells(t, n, 0, now, want...)
		}
		tell(10)
		tell(11, "b")
		tell(13, "d", "a", "c", "e")
		tell(14, "g")
		tell(76)
		tell(77, "f")
	}
}

// P13.3: a loop that stops early: what it wasn't told is still there, what it was told is gone.
func TestStopsEarly(t *testing.T) {
	n, p := joined(t, Config{Delay: 1, Room: 16}, nil, 0)
	for _, text := range []string{"a", "b", "c", "d"} {
		do(t, n, p, send(0, text, 4), up(0, text, 4))
	}
	do(t, n, p, takeUpTo(0, 5, 1), senderTakesUpTo(5, 2))
	if n.Waiting(0) != 3 {
		t.Fatalf("Waiting: %d", n.Waiting(0))
	}
	do(t, n, p, takeUpTo(0, 5, 2), senderTakesUpTo(5, 1))
	tells(t, n, 0, 5, "d")
	tellsSender(t, n, 5, "d")
}

// P13.3: what is not ranged over takes nothing, and is told as it is when the loop runs, as often as it runs.
func TestTakenByTheLoop(t *testing.T) {
	n, p := joined(t, Config{Room: 16}, nil, 0)
	seq, seqUp, none := n.Take(0, 5), n.TakeUp(5), n.Take(1, 5)
	do(t, n, p, send(0, "a", 5), up(0, "b", 5))
	n.Take(0, 5)
	n.TakeUp(5)
	holds(t, n, p)
	if l, u := told(seq, whole), told(seqUp, whole); len(l) != 1 || l[0] != "a" || len(u) != 1 || u[0] != "b" {
		t.Fatalf("Take, TakeUp: %q, %q", l, u)
	}
	do(t, n, p.without(0, 5).without(1, 5), send(0, "c", 5), up(0, "d", 5))
	if l, u := told(seq, whole), told(seqUp, whole); len(l) != 1 || l[0] != "c" || len(u) != 1 || u[0] != "d" {
		t.Fatalf("Take, TakeUp once more: %q, %q", l, u)
	}
	if l := told(none, whole); len(l) != 0 {
		t.Fatalf("Take(1): %q", l)
	}
}

// P13.3: of a receiver that does not exist nothing is told, and nothing waits; at all ticks, and it takes nothing.
func TestNoReceiver(t *testing.T) {
	for _, receivers := range []int{1, 2, api.MaxReceivers} {
		levels := make([]int, receivers)
		n, p := joined(t, Config{Room: 4}, nil, levels...)
		do(t, n, p, send(0, "a", 0), up(0, "b", 0))
		for _, r := range []int{first, first + 1, -api.MaxReceivers, -1, receivers, receivers + 1, 1 << 32, last} {
			for _, now := range edges {
				tells(t, n, r, now)
			}
			if got := n.Waiting(r); got != 0 {
				t.Fatalf("Waiting(%d): %d", r, got)
			}
		}
		holds(t, n, p)
	}
}

// P13.3: Waiting counts what a receiver's own pipe has, due or not; the sender's is nobody's.
func TestWaiting(t *testing.T) {
	n, p := joined(t, Config{Delay: 3, Room: 16}, []Fate{{Kind: 2}, {Kind: 1}, {}, {Kind: 3, N: 9}}, 2, 1, -1)
	waits := func(want ...int) {
		t.Helper()
		holds(t, n, p)
		for r, w := range want {
			if got := n.Waiting(r); got != w {
				t.Fatalf("Waiting(%d): %d, not %d", r, got, w)
			}
		}
	}
	waits(0, 0, 0, 0)
	do(t, n, p, send(0, "a", 5))
	waits(2, 0, 0, 0)
	do(t, n, p, send(1, "b", 5))
	waits(3, 1, 0, 0)
	do(t, n, p, up(2, "c", 5), up(0, "d", 5))
	waits(3, 1, 0, 0)
	do(t, n, p, takeUpTo(0, 8, 1))
	waits(2, 1, 0, 0)
	do(t, n, p, take(0, 8), take(1, 8))
	waits(0, 1, 0, 0)
	do(t, n, p, take(1, 17))
	waits(0, 0, 0, 0)
}

// Memory: what was told is no other receiver's, no second copy's and no later answer's.
func TestToldIsNew(t *testing.T) {
	list := make([]byte, 3, 9)
	copy(list, "abc")
	n, _ := joined(t, Config{Room: 8}, []Fate{{Kind: 2}, {}, {Kind: 4, N: 0}, {Kind: 2}}, 0, 0)
	for range 2 {
		if k, e := n.Send(0, list, 5); k != 2 || e != api.OK {
			t.Fatalf("Send: %d, %d", k, e)
		}
	}
	seen := 0
	for b := range n.Take(0, 5) {
		if want := []string{"abc", "abc", "`bc"}[seen]; string(b) != want {
			t.Fatalf("Take(0): %q, not %q", b, want)
		}
		scrawl(b)
		seen++
	}
	tells(t, n, 1, 5, "abc", "abc", "abc")
	if string(list) != "abc" {
		t.Fatalf("what was handed in was changed: %q", list)
	}

	sentUp(t, n, 0, "def", 5)
	sentUp(t, n, 0, "def", 5)
	for b := range n.TakeUp(5) {
		if string(b) != "def" {
			t.Fatalf("TakeUp: %q", b)
		}
		scrawl(b)
	}
}

// Memory: what was told stays as it was, whatever goes on in the net.
func TestToldStays(t *testing.T) {
	n, _ := joined(t, Config{Room: 2}, nil, 0)
	var kept [][]byte
	for i := range 20 {
		sent(t, n, 0, strings.Repeat(string([]byte{byte('a' + i)}), 5), i, 1)
		for b := range n.Take(0, i) {
			kept = append(kept, b)
		}
	}
	for i, b := range kept {
		if want := strings.Repeat(string([]byte{byte('a' + i)}), 5); string(b) != want {
			t.Fatalf("message %d: %q, not %q", i, b, want)
		}
	}
}

// small is a number near 0, and seldom an edge.
func small(x *rand.Rand, below int) int {
	if x.IntN(40) == 0 {
		return edges[x.IntN(len(edges))]
	}
	return x.IntN(below+1) - x.IntN(2)
}

func anyText(x *rand.Rand) string {
	if x.IntN(30) == 0 {
		return long[:318+x.IntN(4)]
	}
	b := make([]byte, x.IntN(6))
	for i := range b {
		b[i] = byte(x.Uint32())
	}
	return string(b)
}

func anyStep(x *rand.Rand, receivers, now int) step {
	r := small(x, receivers)
	tick := now
	if x.IntN(10) == 0 {
		tick = small(x, 200)
	}
	switch x.IntN(8) {
	case 0:
		return ask(r, small(x, api.MaxLayers), tick)
	case 1, 2, 3:
		return send(small(x, api.MaxLayers)/2, anyText(x), tick)
	case 4:
		return up(r, anyText(x), tick)
	case 5:
		return takeUpTo(r, tick, 1+x.IntN(3))
	case 6:
		return take(r, tick)
	}
	return senderTakesUpTo(tick, 1+x.IntN(5))
}

func anyFates(x *rand.Rand) []Fate {
	l := make([]Fate, x.IntN(150))
	for i := range l {
		l[i] = Fate{small(x, 5), small(x, 80)}
	}
	return l
}

// P13.1, P13.2, P13.3: long rows of any calls, held against the model.
func TestLongRows(t *testing.T) {
	for seed := range uint64(150) {
		x := rand.New(rand.NewPCG(seed, 13))
		c := Config{Receivers: 1 + x.IntN(5), Delay: x.IntN(5), Room: 1 + x.IntN(6), Join: x.IntN(4), Leave: x.IntN(4)}
		n, p := made(t, c, anyFates(x)...)
		for i := range 200 {
			anyStep(x, c.Receivers, i/3)(t, n, p)
			countsSame(t, n, p)
			if i%20 == 0 {
				holds(t, n, p)
				n, p = n.Copy(), p.copy()
			}
		}
		holds(t, n, p)
	}
}

// P1: no call panics, at any arguments, and each is answered as the model says.
func TestAnyArguments(t *testing.T) {
	for _, c := range []Config{{1, 0, 1, 0, 0}, {64, 64, 256, 64, 64}, {3, 1, 2, 1, 1}} {
		var fates []Fate
		for _, k := range edges {
			fates = append(fates, Fate{k, k}, Fate{3, k}, Fate{4, k}, Fate{2, k})
		}
		n, p := made(t, c, fates...)
		for _, r := range edges {
			for _, x := range edges {
				for _, now := range []int{first, -1, 0, 1, api.MaxTick, api.MaxTick + 1, last} {
					ask(r, x, now)(t, n, p)
				}
			}
		}
		for _, r := range edges {
			for _, now := range edges {
				for _, text := range []string{"", "a", long} {
					send(r, text, now)(t, n, p)
					up(r, text, now)(t, n, p)
				}
				take(r, now)(t, n, p)
				senderTakesUpTo(now, 2)(t, n, p)
				countsSame(t, n, p)
			}
		}
		holds(t, n, p)
	}
}

// P1: New at each edge of all its numbers together.
func TestAnyConfig(t *testing.T) {
	x := rand.New(rand.NewPCG(1, 13))
	for range 20000 {
		c := Config{small(x, 66), small(x, 66), small(x, 258), small(x, 66), small(x, 66)}
		ok := 1 <= c.Receivers && c.Receivers <= 64 && 0 <= c.Delay && c.Delay <= 64 && 1 <= c.Room && c.Room <= 256 &&
			0 <= c.Join && c.Join <= 64 && 0 <= c.Leave && c.Leave <= 64
		n, e := New(c, nil)
		if ok != (n != nil) || ok != (e == api.OK) || !ok && e != api.ErrRange {
			t.Fatalf("New(%+v): %v, %d", c, n, e)
		}
	}
}
