package detect

import (
	"math/rand/v2"
	"testing"

	"terrace/api"
)

// step does any one call, of numbers that are mostly near the expected ones.
func step(t testing.TB, r *rand.Rand, d *Detect, p *plain) {
	t.Helper()
	layer, now := r.IntN(api.MaxLayers)>>r.IntN(4), p.now()
	next, ok := p.next[layer]
	if !ok {
		next = starts[r.IntN(len(starts))]
	}
	switch r.IntN(16) {
	case 0:
		d.Forget(layer)
		p.forget(layer)
	case 1:
		any := edges[r.IntN(len(edges))]
		d.Forget(any)
		p.forget(any)
	case 2:
		n := edges[r.IntN(len(edges))]
		if got, want := d.History().Start(n), p.start(n); got != want {
			t.Fatalf("Start(%d): %v, not %v", n, got, want)
		}
	case 3:
		on(t, d, p, layer, next+aways[r.IntN(len(aways))], now+r.IntN(4)-1, r.IntN(30))
	case 4:
		on(t, d, p, edges[r.IntN(len(edges))], next, now, edges[r.IntN(len(edges))])
	case 5:
		on(t, d, p, layer, int(r.Uint32()), now, r.IntN(30))
	case 6, 7:
		on(t, d, p, layer, next+r.IntN(600)>>r.IntN(9)-r.IntN(3), now+r.IntN(40), r.IntN(30))
	default:
		on(t, d, p, layer, next+r.IntN(3), now+r.IntN(5), r.IntN(30)>>r.IntN(5))
	}
}

// P15.1, P15.2: long rows of any calls, copies on the way, which stay as they were.
func TestLongRows(t *testing.T) {
	for seed := range uint64(60) {
		r := rand.New(rand.NewPCG(15, seed))
		d, p := made(t)
		for range 300 {
			step(t, r, d, p)
			holds(t, d, p)
			if r.IntN(40) == 0 {
				v, q := d, p.copy()
				d = d.Copy()
				defer func() { holds(t, v, q) }()
			}
		}
	}
}

// P15.1: every short row of numbers of two layers, at ticks about the round trip.
func TestShortRows(t *testing.T) {
	type packet struct{ layer, seq, later int }
	var packets []packet
	for _, layer := range []int{0, 7} {
		for _, seq := range []int{-2, -1, 0, 1} {
			for _, later := range []int{0, 2, 3} {
				packets = append(packets, packet{layer, seq, later})
			}
		}
	}
	count := len(packets)
	for row := range count * count * count {
		d, p := made(t)
		for ; row > 0; row /= count {
			one := packets[row%count]
			on(t, d, p, one.layer, one.seq, p.now()+one.later, 2)
		}
		holds(t, d, p)
	}
}

// P1: every row of edges in every call that takes a number, of a new detector and of one that had an event.
func TestAnyArguments(t *testing.T) {
	for _, a := range edges {
		for _, b := range edges {
			d, p := made(t)
			v, q := copied(t)
			for _, c := range edges {
				on(t, d, p, a, c, b, c)
				on(t, d, p, a, b, c, a)
				on(t, v, q, b, a, c, a)
				on(t, v, q, 0, a, b, c)
			}
			holds(t, d, p)
			holds(t, v, q)
			d.Forget(a)
			p.forget(a)
			d.Copy().Forget(b)
			holds(t, d, p)
		}
	}
}

// FuzzCalls takes each six bytes as a call with its numbers, and holds all that is told against the model behind each.
func FuzzCalls(f *testing.F) {
	f.Add([]byte{}, uint32(0), 0)
	f.Add([]byte("\x00\x00\x05\x01\x0a\x00\x00\x00\x01\x01\x0a\x00\x00\x00\x04\x01\x0a\x00"), uint32(5), last)
	f.Add([]byte("\x07\x00\x00\x00\x02\x10\x07\x01\x02\x03\x02\x10\x17\x00\x00\xff\xff\x00"), uint32(1<<32-2), first)
	f.Add([]byte("\x08\x00\x00\x00\x01\x00\x18\x00\x04\x00\x00\x00\x20\x00\x00\x01\x02\x03"), uint32(1<<31), 1<<40)
	f.Fuzz(func(t *testing.T, b []byte, seq uint32, any int) {
		d, p := made(t)
		for ; len(b) >= 6; b = b[6:] {
			layer := int(b[0]) % 8
			n := int(b[1])<<8 | int(b[2])
			switch b[0] / 8 % 6 {
			case 0:
				on(t, d, p, layer, int(seq)+n, p.now()+int(b[3]), int(b[4]))
			case 1:
				on(t, d, p, layer, p.next[layer]+n%300, p.now()+int(b[3]), int(b[4]))
			case 2:
				on(t, d, p, layer, p.next[layer]-n, p.now()+int(b[3]), any)
			case 3:
				on(t, d, p, any, n, p.now(), int(b[4]))
			case 4:
				on(t, d, p, layer, int(seq), any, int(b[4]))
			case 5:
				d.Forget(layer)
				p.forget(layer)
			}
			holds(t, d, p)
			d = d.Copy()
		}
		holds(t, d, p)
	})
}
