package simnet

import (
	"bytes"
	"strings"
	"testing"

	"terrace/api"
)

// texts are those of each special length that may go, and long is one that may not.
var (
	texts = []string{"", "a", "ab", strings.Repeat("x", 319), strings.Repeat("y", 320)}
	long  = strings.Repeat("z", 321)
)

var badTicks = []int{first, first + 1, -api.MaxTick, -1, api.MaxTick + 1, 2 * api.MaxTick, last}

// sendIs sends with a net, which then is held against its model as it was ahead, if it is refused.
func sendIs(t *testing.T, n *Net, p *plain, layer int, b []byte, now, want int, e api.Errno) {
	t.Helper()
	if got, f := n.Send(layer, b, now); got != want || f != e {
		t.Fatalf("Send(%d, %d bytes, %d): %d, %d, not %d, %d", layer, len(b), now, got, f, want, e)
	}
	if e == api.OK {
		p.send(layer, string(b), now)
	}
	holds(t, n, p)
}

// upIs is the same with Up.
func upIs(t *testing.T, n *Net, p *plain, r int, b []byte, now int, e api.Errno) {
	t.Helper()
	if f := n.Up(r, b, now); f != e {
		t.Fatalf("Up(%d, %d bytes, %d): %d, not %d", r, len(b), now, f, e)
	}
	if e == api.OK {
		p.up(r, string(b), now)
	}
	holds(t, n, p)
}

// P13.2: Send for each layer, and for those that are none.
func TestSendLayers(t *testing.T) {
	fates := []Fate{{Kind: 2}, {Kind: 1}}
	for _, layer := range []int{first, first + 1, -2, -1, api.MaxLayers, api.MaxLayers + 1, 1 << 32, last} {
		n, p := joined(t, right, fates, 7, 7, 7)
		sendIs(t, n, p, layer, []byte("a"), 3, 0, api.ErrRange)
		statsAre(t, n, Stats{}, 0)
	}
	for layer := range api.MaxLayers {
		n, p := joined(t, right, fates, 7, layer, layer-1)
		sendIs(t, n, p, layer, []byte("a"), 3, 2, api.OK)
		statsAre(t, n, Stats{Sent: 2, Lost: 1, Doubled: 1}, 2)
	}
}

// P13.2: Send and Up at each edge of the ticks.
func TestTicks(t *testing.T) {
	for _, delay := range []int{0, 1, 64} {
		c := Config{Delay: delay, Room: 4}
		for _, now := range badTicks {
			n, p := joined(t, c, []Fate{{Kind: 2}}, 0)
			sendIs(t, n, p, 0, []byte("a"), now, 0, api.ErrRange)
			upIs(t, n, p, 0, []byte("a"), now, api.ErrRange)
			statsAre(t, n, Stats{}, 0)
		}
		for _, now := range []int{0, 1, api.MaxTick - 1, api.MaxTick} {
			n, p := joined(t, c, []Fate{{}, {Kind: 3, N: 64}, {Kind: 3, N: 64}}, 0)
			sendIs(t, n, p, 0, []byte("a"), now, 1, api.OK)
			sendIs(t, n, p, 0, []byte("b"), now, 1, api.OK)
			upIs(t, n, p, 0, []byte("c"), now, api.OK)
			upIs(t, n, p, 0, []byte("d"), now, api.OK)
			tells(t, n, 0, now+delay-1)
			tells(t, n, 0, now+delay, "a")
			tells(t, n, 0, now+delay+63)
			tells(t, n, 0, now+delay+64, "b")
			tellsSender(t, n, now+delay-1)
			tellsSender(t, n, now+delay, "d")
			tellsSender(t, n, now+delay+63)
			tellsSender(t, n, now+delay+64, "c")
		}
	}
}

// P13.2: Send and Up with bytes of each special length.
func TestLengths(t *testing.T) {
	n, p := joined(t, Config{Room: 16}, []Fate{{}, {}, {}, {Kind: 4, N: 9}, {Kind: 2}}, 2)
	for _, b := range [][]byte{make([]byte, 321), make([]byte, 322), make([]byte, 1<<16)} {
		sendIs(t, n, p, 0, b, 1, 0, api.ErrRange)
		upIs(t, n, p, 0, b, 1, api.ErrRange)
	}
	statsAre(t, n, Stats{}, 0)
	sendIs(t, n, p, 0, nil, 1, 1, api.OK)
	upIs(t, n, p, 0, nil, 1, api.OK)
	for _, text := range texts {
		sendIs(t, n, p, 0, []byte(text), 1, 1, api.OK)
		upIs(t, n, p, 0, []byte(text), 1, api.OK)
	}
	// A list's spare room is none of its bytes.
	sendIs(t, n, p, 0, make([]byte, 320, 500), 1, 1, api.OK)
}

// P13.2: to nobody, where nobody has the layer: no fate is used, and nothing counted.
func TestSendToNobody(t *testing.T) {
	n, p := joined(t, right, []Fate{{Kind: 1}, {Kind: 2}}, -1, 0, -1)
	sendIs(t, n, p, 1, []byte("a"), 3, 0, api.OK)
	sendIs(t, n, p, 7, nil, 3, 0, api.OK)
	statsAre(t, n, Stats{}, 0)
	sendIs(t, n, p, 0, []byte("b"), 3, 1, api.OK)
	statsAre(t, n, Stats{Sent: 1, Lost: 1}, 1)
}

// P13.2: to one, some and all, each with a fate of its own, in the members' order.
func TestSendToSome(t *testing.T) {
	fates := []Fate{{Kind: 3, N: 1}, {Kind: 1}, {Kind: 2}, {Kind: 4, N: 0}, {}, {Kind: 3, N: 2}}
	n, p := joined(t, right, fates, 2, -1, 0, 1)
	do(t, n, p, send(0, "aa", 3), send(1, "bb", 3), send(2, "cc", 3))
	statsAre(t, n, Stats{Sent: 6, Lost: 1, Doubled: 1, Late: 2, Turned: 1}, 6)
	tells(t, n, 0, 5, "cb")
	tells(t, n, 0, 6, "aa")
	tells(t, n, 0, 7, "cc")
	tells(t, n, 1, last)
	tells(t, n, 2, last)
	tells(t, n, 3, 5, "aa", "aa", "bb")
}

// P13.2: to all of as many receivers as there may be; the members' order is the receivers', whoever asked first.
func TestSendToAll(t *testing.T) {
	fates := make([]Fate, 64)
	for r := range fates {
		fates[r] = Fate{Kind: 4, N: r}
	}
	n, p := made(t, Config{Receivers: 64, Room: 1}, fates...)
	for i := range 64 {
		ask(i*37%64, 3, i)(t, n, p)
	}
	text := strings.Repeat("m", 8)
	do(t, n, p, send(3, text, 64))
	statsAre(t, n, Stats{Sent: 64, Turned: 64}, 64)
	for r := range 64 {
		tells(t, n, r, 64, turned(text, r))
	}
}

// P13.2: Up of each receiver and of those that are none; all go to the sender's one pipe, members of anything or not.
func TestUp(t *testing.T) {
	n, p := joined(t, right, []Fate{{Kind: 2}}, 0, -1, 5)
	for _, r := range []int{first, first + 1, -2, -1, 3, 4, api.MaxReceivers, 1 << 32, last} {
		upIs(t, n, p, r, []byte("a"), 3, api.ErrRange)
		upIs(t, n, p, r, []byte(long), -1, api.ErrRange)
	}
	statsAre(t, n, Stats{}, 0)
	upIs(t, n, p, 2, []byte("a"), 3, api.OK)
	upIs(t, n, p, 0, []byte("b"), 2, api.OK)
	upIs(t, n, p, 1, []byte("c"), 3, api.OK)
	statsAre(t, n, Stats{Sent: 3, Doubled: 1}, 1)
	for r := range 3 {
		tells(t, n, r, last)
	}
	tellsSender(t, n, last, "b", "a", "a", "c")
}

// P13.2: several errors at once, and each beside what else is right.
func TestSendRefused(t *testing.T) {
	n, p := joined(t, right, []Fate{{Kind: 2}, {Kind: 1}}, 7, 7)
	do(t, n, p, send(0, "kept", 1))
	for _, layer := range []int{-1, 0, api.MaxLayers} {
		for _, now := range []int{-1, 3, api.MaxTick + 1} {
			for _, b := range [][]byte{nil, []byte("a"), []byte(long)} {
				if layer == 0 && now == 3 && len(b) <= 320 {
					continue
				}
				sendIs(t, n, p, layer, b, now, 0, api.ErrRange)
				if layer != 0 {
					upIs(t, n, p, 2*layer, b, now, api.ErrRange)
				}
			}
		}
	}
	statsAre(t, n, Stats{Sent: 2, Lost: 1, Doubled: 1}, 2)
}

// fateCase is a fate, and what becomes of a message "ab" that is sent at 10 with a delay of 2.
type fateCase struct {
	fate  Fate
	at    int
	texts []string
	stats Stats
}

func fateCases() []fateCase {
	var l []fateCase
	for _, kind := range []int{first, first + 1, -4, -3, -2, -1, 0, 5, 6, 1<<32 + 1, 1<<32 + 2, last} {
		for _, n := range edges {
			l = append(l, fateCase{Fate{kind, n}, 12, []string{"ab"}, Stats{Sent: 1}})
		}
	}
	for _, n := range edges {
		l = append(l,
			fateCase{Fate{1, n}, 12, nil, Stats{Sent: 1, Lost: 1}},
			fateCase{Fate{2, n}, 12, []string{"ab", "ab"}, Stats{Sent: 1, Doubled: 1}},
			fateCase{Fate{4, n}, 12, []string{turned("ab", n)}, Stats{Sent: 1, Turned: 1}})
	}
	for n, more := range map[int]int{first: 0, -65: 0, -1: 0, 0: 0, 1: 1, 2: 2, 63: 63, 64: 64, 65: 64, 66: 64, 1 << 32: 64, last: 64} {
		l = append(l, fateCase{Fate{3, n}, 12 + more, []string{"ab"}, Stats{Sent: 1, Late: 1}})
	}
	for n, text := range map[int]string{
		0: "`b", 1: "cb", 7: "\xe1b", 8: "ac", 15: "a\xe2", 16: "`b", -1: "a\xe2", -16: "`b", -17: "a\xe2", 17: "cb", first: "`b", last: "a\xe2",
	} {
		l = append(l, fateCase{Fate{4, n}, 12, []string{text}, Stats{Sent: 1, Turned: 1}})
	}
	return l
}

// P13.2: each Kind of fate with each special N, for Send and for Up; the next message arrives.
func TestFates(t *testing.T) {
	for _, c := range fateCases() {
		n, p := joined(t, Config{Delay: 2, Room: 4}, []Fate{c.fate}, 0)
		do(t, n, p, send(0, "ab", 10))
		statsAre(t, n, c.stats, 1)
		if n.Waiting(0) != len(c.texts) {
			t.Fatalf("%v: Waiting: %d", c.fate, n.Waiting(0))
		}
		tells(t, n, 0, c.at-1)
		tells(t, n, 0, c.at, c.texts...)
		tells(t, n, 0, last)

		n, p = joined(t, Config{Delay: 2, Room: 4}, []Fate{c.fate}, 0)
		do(t, n, p, up(0, "ab", 10))
		statsAre(t, n, c.stats, 1)
		tellsSender(t, n, c.at-1)
		tellsSender(t, n, c.at, c.texts...)
		tellsSender(t, n, last)
		do(t, n, p.without(p.sender(), last), up(0, "cd", 100))
		tellsSender(t, n, 101)
		tellsSender(t, n, 102, "cd")
	}
}

// P13.2: each Kind for a message of no bytes.
func TestFatesOfNoBytes(t *testing.T) {
	for kind, want := range map[int]struct {
		texts []string
		stats Stats
	}{
		0: {[]string{""}, Stats{Sent: 1}},
		1: {nil, Stats{Sent: 1, Lost: 1}},
		2: {[]string{"", ""}, Stats{Sent: 1, Doubled: 1}},
		3: {[]string{""}, Stats{Sent: 1, Late: 1}},
		4: {[]string{""}, Stats{Sent: 1, Turned: 1}},
		5: {[]string{""}, Stats{Sent: 1}},
	} {
		for _, bit := range []int{first, -1, 0, 1, 64, last} {
			n, p := joined(t, Config{Delay: 2, Room: 4}, []Fate{{kind, bit}, {kind, bit}}, 0)
			do(t, n, p, send(0, "", 10))
			statsAre(t, n, want.stats, 1)
			tells(t, n, 0, last, want.texts...)
			do(t, n, p.without(0, last), up(0, "", 10))
			tellsSender(t, n, last, want.texts...)
		}
	}
}

// P13.2: bits of the longest message, the last one, one past it and one below the first.
func TestTurnOfTheLongest(t *testing.T) {
	text := strings.Repeat("x", 320)
	turnedLast := strings.Repeat("x", 319) + "\xf8"
	for bit, want := range map[int]string{0: "y" + text[1:], 2559: turnedLast, 2560: "y" + text[1:], -1: turnedLast, -2560: "y" + text[1:], 2561: "z" + text[1:]} {
		n, _ := joined(t, Config{Room: 1}, []Fate{{4, bit}}, 0)
		sent(t, n, 0, text, 0, 1)
		tells(t, n, 0, 0, want)
	}
}

// P13.2: fates are used up by messages, not by copies, and behind the last one all arrive.
func TestFatesAreUsedUp(t *testing.T) {
	n, p := joined(t, Config{Delay: 1, Room: 64}, []Fate{{Kind: 2}, {Kind: 1}, {Kind: 2}, {Kind: 4, N: 8}}, 0)
	for i, used := range []int{1, 2, 3, 4, 4, 4, 4} {
		do(t, n, p, send(0, string([]byte{byte('a' + i), 'x'}), 5))
		if n.Used() != used {
			t.Fatalf("Used behind %d messages: %d", i+1, n.Used())
		}
	}
	statsAre(t, n, Stats{Sent: 7, Lost: 1, Doubled: 2, Turned: 1}, 4)
	tells(t, n, 0, 6, "ax", "ax", "cx", "cx", "dy", "ex", "fx", "gx")
}

// P13.2: fates are one row for Send and Up together.
func TestFatesOfAll(t *testing.T) {
	n, p := joined(t, Config{Room: 64}, []Fate{{Kind: 4, N: 0}, {Kind: 1}, {Kind: 2}, {}, {Kind: 1}}, 0, 0)
	do(t, n, p, up(1, "a", 5), send(0, "b", 5), up(0, "c", 5), send(0, "d", 5))
	statsAre(t, n, Stats{Sent: 6, Lost: 2, Doubled: 1, Turned: 1}, 5)
	tells(t, n, 0, 5)
	tells(t, n, 1, 5, "b", "b", "d")
	tellsSender(t, n, 5, "`", "c")
}

// P13.2: what has no room is dropped, each copy, and counted beside what else became of it; what has room arrives.
func TestNoRoom(t *testing.T) {
	for _, c := range []struct {
		room  int
		fates []Fate
		stats Stats
		texts []string
	}{
		{1, nil, Stats{Sent: 3, Dropped: 2}, []string{"a"}},
		{2, nil, Stats{Sent: 3, Dropped: 1}, []string{"a", "b"}},
		{3, nil, Stats{Sent: 3}, []string{"a", "b", "c"}},
		{1, []Fate{{Kind: 2}}, Stats{Sent: 3, Doubled: 1, Dropped: 3}, []string{"a"}},
		{2, []Fate{{}, {Kind: 2}}, Stats{Sent: 3, Doubled: 1, Dropped: 2}, []string{"a", "b"}},
		{3, []Fate{{}, {Kind: 2}}, Stats{Sent: 3, Doubled: 1, Dropped: 1}, []string{"a", "b", "b"}},
		{4, []Fate{{}, {Kind: 2}}, Stats{Sent: 3, Doubled: 1}, []string{"a", "b", "b", "c"}},
		{1, []Fate{{}, {Kind: 2}, {Kind: 2}}, Stats{Sent: 3, Doubled: 2, Dropped: 4}, []string{"a"}},
		{1, []Fate{{}, {Kind: 1}, {Kind: 1}}, Stats{Sent: 3, Lost: 2}, []string{"a"}},
		{1, []Fate{{Kind: 1}, {Kind: 1}}, Stats{Sent: 3, Lost: 2}, []string{"c"}},
		{1, []Fate{{}, {Kind: 3, N: 5}, {Kind: 4, N: 1}}, Stats{Sent: 3, Late: 1, Turned: 1, Dropped: 2}, []string{"a"}},
		{2, []Fate{{Kind: 3, N: 5}, {}, {}}, Stats{Sent: 3, Late: 1, Dropped: 1}, []string{"b", "a"}},
	} {
		n, p := joined(t, Config{Delay: 1, Room: c.room}, c.fates, 0)
		do(t, n, p, send(0, "a", 5), send(0, "b", 5), send(0, "c", 5))
		statsAre(t, n, c.stats, len(c.fates))
		tells(t, n, 0, last, c.texts...)

		n, p = joined(t, Config{Delay: 1, Room: c.room}, c.fates, 0)
		do(t, n, p, up(0, "a", 5), up(0, "b", 5), up(0, "c", 5))
		statsAre(t, n, c.stats, len(c.fates))
		tellsSender(t, n, last, c.texts...)
	}
}

// P13.2: each pipe has a room of its own, the sender's too, and what is taken makes room.
func TestRoomOfEach(t *testing.T) {
	n, p := joined(t, Config{Room: 2}, nil, 1, 0)
	do(t, n, p, send(1, "a", 5), send(1, "b", 5), send(1, "c", 5), send(0, "d", 5), up(0, "e", 5), up(1, "f", 5), up(1, "g", 5))
	statsAre(t, n, Stats{Sent: 8, Dropped: 3}, 0)
	do(t, n, p, takeUpTo(0, 5, 1), send(0, "h", 5), senderTakes(5), up(0, "i", 5))
	statsAre(t, n, Stats{Sent: 11, Dropped: 3}, 0)
	tells(t, n, 0, 5, "b", "h")
	tells(t, n, 1, 5, "d", "h")
	tellsSender(t, n, 5, "i")
}

// P13.2: the greatest room, filled and more.
func TestGreatestRoom(t *testing.T) {
	n, p := joined(t, Config{Room: api.MaxQueue}, nil, 0)
	for range api.MaxQueue + 3 {
		send(0, "a", 5)(t, n, p)
		up(0, "b", 5)(t, n, p)
	}
	holds(t, n, p)
	statsAre(t, n, Stats{Sent: 2*api.MaxQueue + 6, Dropped: 6}, 0)
	if n.Waiting(0) != api.MaxQueue {
		t.Fatalf("Waiting: %d", n.Waiting(0))
	}
}

// P13.2: who gets a message is as of its tick, by layer 12's delays.
func TestLevelsBetweenMessages(t *testing.T) {
	n, p := made(t, Config{Receivers: 2, Room: 16, Join: 3, Leave: 5})
	do(t, n, p,
		ask(0, 1, 10), send(1, "a", 12), send(1, "b", 13), ask(1, 1, 13), send(1, "c", 15), send(1, "d", 16),
		ask(0, 0, 20), send(1, "e", 24), send(0, "f", 24), send(1, "g", 25), send(0, "h", 25), ask(1, -1, 25), send(0, "i", 29), send(0, "j", 30))
	statsAre(t, n, Stats{Sent: 14}, 0)
	tells(t, n, 0, last, "b", "c", "d", "e", "f", "h", "i", "j")
	tells(t, n, 1, last, "d", "e", "f", "g", "h", "i")
}

// P13.2: who left gets what was sent ahead of that still.
func TestLeftWithMessages(t *testing.T) {
	n, p := joined(t, Config{Delay: 10, Room: 4}, nil, 0)
	do(t, n, p, send(0, "a", 1), ask(0, -1, 2), send(0, "b", 2), send(0, "c", 3), take(0, 10))
	tells(t, n, 0, 11, "a")
}

// Memory: the bytes that were handed to Send and Up are neither changed nor kept, their spare room neither.
func TestBytesAreNotKept(t *testing.T) {
	for _, fate := range []Fate{{}, {Kind: 2}, {Kind: 3}, {Kind: 4, N: 3}, {Kind: 1}} {
		n, p := joined(t, Config{Room: 8}, []Fate{fate, fate, fate}, 0, 0)
		list := []byte("abcdefgh")
		b := list[:4]
		sendIs(t, n, p, 0, b, 1, 2, api.OK)
		upIs(t, n, p, 0, b, 1, api.OK)
		if !bytes.Equal(list, []byte("abcdefgh")) {
			t.Fatalf("%v: what was handed in was changed: %q", fate, list)
		}
		scrawl(b)
		holds(t, n, p)
	}
}
