package clr

import (
	"math"
	"math/big"
	"testing"

	"terrace/api"
	"terrace/fix"
)

const (
	first   = math.MinInt
	last    = math.MaxInt
	highest = math.MaxUint64
)

// edges are the numbers that the chapter and the language make special.
var edges = []int{
	first, first + 1, first + 1<<20, first + api.MaxTick, -api.MaxTick - 1, -api.MaxTick, -1 << 20, -64, -2, -1, 0, 1, 2, 3, 10, 11,
	62, 63, 64, 65, 1<<20 - 1, 1 << 20, 1<<20 + 1, 1<<32 - 1, 1 << 32, 1<<32 + 1, 1<<32 + 63,
	api.MaxTick - 1<<20 - 1, api.MaxTick - 1<<20, api.MaxTick - 1, api.MaxTick, api.MaxTick + 1, api.MaxTick + 1<<20, api.MaxTick + 1<<20 + 1,
	1 << 62, last - api.MaxTick, last - 1<<20, last - 1, last,
}

// rates are those beside each other, beside a whole number, and the ends.
var rates = []fix.F{0, 1, 2, 7, 8, 9, 1<<32 - 1, 1 << 32, 1<<32 + 1, 1<<63 - 1, 1 << 63, 1<<63 + 1, highest - 1, highest}

// deed is what was done to a book: a report that was taken in, or a receiver that was forgotten.
type deed struct {
	forgot bool
	told   Told // of one that was forgotten only From counts
}

// plain is what a book is held against: all that was ever done to it.
type plain struct {
	limit int
	ever  []deed
}

// known is what a receiver told last, unless it was forgotten since.
func (p *plain) known(r int) (Told, bool) {
	for i := len(p.ever) - 1; i >= 0; i-- {
		if d := p.ever[i]; d.told.From == r {
			return d.told, !d.forgot
		}
	}
	return Told{}, false
}

// clr is the CLR's last report, found by going through all deeds from the first one on.
func (p *plain) clr() (Told, bool) {
	report, ok := Told{}, false
	for _, d := range p.ever {
		switch {
		case d.forgot && ok && d.told.From == report.From:
			report, ok = Told{}, false
		case d.forgot:
		case !ok, d.told.From == report.From, d.told.Rate < report.Rate:
			report, ok = d.told, true
		}
	}
	return report, ok
}

// least goes through all receivers from the last one on, so that of the same rate the lesser one is left.
func (p *plain) least() (Told, bool) {
	least, ok := Told{}, false
	for r := 63; r >= 0; r-- {
		if t, known := p.known(r); known && (!ok || t.Rate <= least.Rate) {
			least, ok = t, true
		}
	}
	return least, ok
}

func (p *plain) count() int {
	n := 0
	for r := range 64 {
		if _, known := p.known(r); known {
			n++
		}
	}
	return n
}

// over tells whether a tick is more than the limit ahead of now, in long numbers.
func (p *plain) over(tick, now int) bool {
	difference := new(big.Int).Sub(big.NewInt(int64(now)), big.NewInt(int64(tick)))
	return difference.Cmp(big.NewInt(int64(p.limit))) > 0
}

func (p *plain) take(t Told, now int) api.Errno {
	const maxTick = 1099511627776
	if t.From < 0 || t.From > 63 || t.Tick < 0 || t.Tick > maxTick || now < 0 || now > maxTick {
		return 11
	}
	before, known := p.known(t.From)
	if p.over(t.Tick, now) || t.Tick > now || known && t.Tick < before.Tick {
		return 23
	}
	p.ever = append(p.ever, deed{told: t})
	return 0
}

func (p *plain) leave(r int) bool {
	report, ok := p.clr()
	if _, known := p.known(r); known {
		p.ever = append(p.ever, deed{forgot: true, told: Told{From: r}})
	}
	return ok && report.From == r
}

func (p *plain) pass(now int) bool {
	report, ok := p.clr()
	if !ok || !p.over(report.Tick, now) {
		return false
	}
	p.ever = append(p.ever, deed{forgot: true, told: Told{From: report.From}})
	return true
}

func (p *plain) copy() *plain { return &plain{p.limit, append([]deed(nil), p.ever...)} }

// made is a new book of that limit, and its model.
func made(t testing.TB, limit int) (*Book, *plain) {
	t.Helper()
	b, e := New(limit)
	if b == nil || e != api.OK {
		t.Fatalf("New(%d): %v, %d", limit, b, e)
	}
	return b, &plain{limit: limit}
}

// taken is a book of that limit that has taken in these reports, each at its own tick, and its model.
func taken(t testing.TB, limit int, reports ...Told) (*Book, *plain) {
	t.Helper()
	b, p := made(t, limit)
	for _, r := range reports {
		errnoIs(t, "Take", take(t, b, p, r, r.Tick), api.OK)
	}
	return b, p
}

// holds is all that a book tells, held against the model.
func holds(t testing.TB, b *Book, p *plain) {
	t.Helper()
	clr, ok := p.clr()
	isTold(t, "CLR", b.CLR, clr, ok)
	least, ok := p.least()
	isTold(t, "Least", b.Least, least, ok)
	if got, want := b.Count(), p.count(); got != want {
		t.Fatalf("Count: %d, not %d", got, want)
	}
	for r := -1; r <= 64; r++ {
		of(t, b, p, r)
	}
}

// isTold holds what CLR or Least tells against what is written out.
func isTold(t testing.TB, name string, call func() (Told, bool), want Told, ok bool) {
	t.Helper()
	if got, o := call(); got != want || o != ok {
		t.Fatalf("%s: %+v and %t, not %+v and %t", name, got, o, want, ok)
	}
}

// clrIs holds the CLR's number against the one that is written out; -1 is none.
func clrIs(t testing.TB, b *Book, want int) {
	t.Helper()
	got, ok := b.CLR()
	if ok != (want >= 0) || ok && got.From != want || !ok && got != (Told{}) {
		t.Fatalf("CLR: %+v and %t, not %d", got, ok, want)
	}
}

// errnoIs holds an answer against the one that is written out.
func errnoIs(t testing.TB, name string, got, want api.Errno) {
	t.Helper()
	if got != want {
		t.Fatalf("%s: %d, not %d", name, got, want)
	}
}

// is holds an answer against the one that is written out.
func is(t testing.TB, name string, got, want bool) {
	t.Helper()
	if got != want {
		t.Fatalf("%s: %t, not %t", name, got, want)
	}
}

// of asks both of a receiver, and holds the answer against the model.
func of(t testing.TB, b *Book, p *plain, r int) (Told, api.Errno) {
	t.Helper()
	want, known := p.known(r)
	e := api.Errno(0)
	if !known {
		want, e = Told{}, 14
	}
	got, errno := b.Of(r)
	if got != want || errno != e {
		t.Fatalf("Of(%d): %+v and %d, not %+v and %d", r, got, errno, want, e)
	}
	return got, errno
}

// take, leave and pass make the call of both, and hold what is answered, and told behind it, against the model.
func take(t testing.TB, b *Book, p *plain, r Told, now int) api.Errno {
	t.Helper()
	got, want := b.Take(r, now), p.take(r, now)
	if got != want {
		t.Fatalf("Take(%+v, %d), limit %d: %d, not %d", r, now, p.limit, got, want)
	}
	holds(t, b, p)
	return got
}

func leave(t testing.TB, b *Book, p *plain, r int) bool {
	t.Helper()
	got, want := b.Leave(r), p.leave(r)
	if got != want {
		t.Fatalf("Leave(%d): %t, not %t", r, got, want)
	}
	holds(t, b, p)
	return got
}

func pass(t testing.TB, b *Book, p *plain, now int) bool {
	t.Helper()
	got, want := b.Pass(now), p.pass(now)
	if got != want {
		t.Fatalf("Pass(%d), limit %d: %t, not %t", now, p.limit, got, want)
	}
	holds(t, b, p)
	return got
}
