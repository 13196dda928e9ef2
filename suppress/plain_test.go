package suppress

import (
	"math"
	"math/big"
	"testing"

	"terrace/api"
	"terrace/fix"
)

const (
	first   = math.MinInt
	last    = math.MaxInt
	one     = 1 << 32 // the share of all, as bits
	highest = math.MaxUint64
)

// edges are the numbers that the chapter and the language make special.
var edges = []int{
	first, first + 1, first + api.MaxTick, -api.MaxTick - 1, -api.MaxTick, -1<<20 - 1, -1 << 20, -2, -1, 0, 1, 2, 3, 16,
	1<<16 - 1, 1 << 16, 1<<16 + 1, 1<<20 - 1, 1 << 20, 1<<20 + 1, 1<<32 - 1, 1 << 32, 1<<32 + 1, 1<<32 + 16,
	api.MaxTick - 1, api.MaxTick, api.MaxTick + 1, 2*api.MaxTick - 1, 2 * api.MaxTick, 2*api.MaxTick + 1, 1 << 62, last - api.MaxTick, last - 1, last,
}

// rates are those whose eighth is rounded or isn't, those beside a whole number, and the ends.
var rates = []fix.F{
	0, 1, 2, 6, 7, 8, 9, 15, 16, 17, one / 2, one - 1, one, one + 1, 8*one - 1, 8 * one, 8*one + 1, 9 * one, 9*one + 1, 10 * one,
	39268272420, 39268272421, 1<<63 - 1, 1 << 63, 1<<63 + 1, 16140901064495857664, 16140901064495857663, highest - 8, highest - 7, highest - 1, highest,
}

// bitsOf is a number's bits as a long one.
func bitsOf(f fix.F) *big.Int { return new(big.Int).SetUint64(uint64(f)) }

func within(n, least, greatest int64) bool {
	long := big.NewInt(n)
	return long.Cmp(big.NewInt(least)) >= 0 && long.Cmp(big.NewInt(greatest)) <= 0
}

// negative is the other sign of a share's logarithm, in 65536ths, gone through as the document's table says it, in long numbers.
func negative(share *big.Int) *big.Int {
	table := []int64{0, 5732, 11136, 16248, 21098, 25711, 30109, 34312, 38336, 42196, 45904, 49472, 52911, 56229, 59434, 62534, 65536}
	e := share.BitLen() - 1
	m := new(big.Int).Lsh(share, uint(63-e))
	step, rest := int64(0), int64(0)
	for place := 62; place >= 59; place-- {
		step = 2*step + int64(m.Bit(place))
	}
	for place := 58; place >= 31; place-- {
		rest = 2*rest + int64(m.Bit(place))
	}
	log := (int64(e)-32)*65536 + table[step] + (table[step+1]-table[step])*rest/(1<<28)
	return big.NewInt(-log)
}

// plainWait is the wait, reckoned in long numbers.
func plainWait(share fix.F, most, n int) (int, api.Errno) {
	s, all := bitsOf(share), big.NewInt(4294967296)
	if s.Sign() == 0 || s.Cmp(all) > 0 || !within(int64(most), 0, 1048576) || !within(int64(n), 2, 65536) {
		return 0, 11
	}
	x, l := negative(s), negative(new(big.Int).Quo(all, big.NewInt(int64(n))))
	if x.Cmp(l) >= 0 {
		return 0, 0
	}
	part := new(big.Int).Mul(x, all)
	part.Sub(all, part.Quo(part, l))
	part.Mul(part, big.NewInt(int64(most)))
	return int(part.Quo(part, all).Int64()), 0
}

// plainLow tells whether a rate less its eighth isn't above the own one.
func plainLow(rate, own fix.F) bool {
	r := bitsOf(rate)
	r.Sub(r, new(big.Int).Quo(r, big.NewInt(8)))
	return r.Cmp(bitsOf(own)) <= 0
}

// life is what became of a round.
type life int

const (
	runs life = iota
	fired
	hushed
	followed
)

// laid is one round: what it was started with, when it was urged, and what became of it.
type laid struct {
	number, now, wait int
	own               fix.F
	urged             []int
	became            life
}

// due is the earliest of the tick that it was started for and of all at which it was urged.
func (l *laid) due() int {
	tick := l.now + l.wait
	for _, n := range l.urged {
		tick = min(tick, n)
	}
	return tick
}

// plain is what a round is held against: all that were ever started.
type plain struct{ ever []*laid }

// running is the round that runs; nil, if none does.
func (p *plain) running() *laid {
	if len(p.ever) == 0 || p.ever[len(p.ever)-1].became != runs {
		return nil
	}
	return p.ever[len(p.ever)-1]
}

func (p *plain) number() int {
	if len(p.ever) == 0 {
		return -1
	}
	return p.ever[len(p.ever)-1].number
}

func (p *plain) own() fix.F {
	if len(p.ever) == 0 {
		return 0
	}
	return p.ever[len(p.ever)-1].own
}

func (p *plain) start(number, now, wait int, own fix.F) api.Errno {
	for _, n := range []int{number, now, wait} {
		if !within(int64(n), 0, 1099511627776) {
			return 11
		}
	}
	if number <= p.number() {
		return 24
	}
	if l := p.running(); l != nil {
		l.became = followed
	}
	p.ever = append(p.ever, &laid{number: number, now: now, wait: wait, own: own})
	return 0
}

func (p *plain) echo(number int, rate fix.F) bool {
	l := p.running()
	if l == nil || l.number != number || !plainLow(rate, l.own) {
		return false
	}
	l.became = hushed
	return true
}

func (p *plain) fire(now int) bool {
	l := p.running()
	if l == nil || l.due() > now {
		return false
	}
	l.became = fired
	return true
}

func (p *plain) urge(now int) api.Errno {
	if !within(int64(now), 0, 1099511627776) {
		return 11
	}
	l := p.running()
	if l == nil {
		return 24
	}
	l.urged = append(l.urged, now)
	return 0
}

// made is a new round, and its model.
func made(t testing.TB) (*Round, *plain) {
	t.Helper()
	r := New()
	if r == nil {
		t.Fatal("New: nil")
	}
	return r, &plain{}
}

// started is a round that runs, with its model: number 5, at tick 100, for 20 ticks.
func started(t testing.TB, own fix.F) (*Round, *plain) {
	t.Helper()
	r, p := made(t)
	start(t, r, p, 5, 100, 20, own)
	tells(t, r, 120, true, 5, own)
	return r, p
}

// holds is all that a round tells, held against the model.
func holds(t testing.TB, r *Round, p *plain) {
	t.Helper()
	due, ok := 0, false
	if l := p.running(); l != nil {
		due, ok = l.due(), true
	}
	tells(t, r, due, ok, p.number(), p.own())
}

// tells is all that a round tells, held against what is written out.
func tells(t testing.TB, r *Round, due int, ok bool, number int, own fix.F) {
	t.Helper()
	if d, o := r.Due(); d != due || o != ok {
		t.Fatalf("Due: %d and %t, not %d and %t", d, o, due, ok)
	}
	if r.Number() != number || r.Own() != own {
		t.Fatalf("Number %d, Own %d, not %d and %d", r.Number(), r.Own(), number, own)
	}
}

// errnoIs holds an answer against the one that is written out.
func errnoIs(t testing.TB, name string, got, want api.Errno) {
	t.Helper()
	if got != want {
		t.Fatalf("%s: %d, not %d", name, got, want)
	}
}

// is holds an answer against the one that is written out.
func is(t testing.TB, name string, got, want bool) {
	t.Helper()
	if got != want {
		t.Fatalf("%s: %t, not %t", name, got, want)
	}
}

// start, echo, fire and urge make the call of both, and hold what is answered, and told behind it, against the model.
func start(t testing.TB, r *Round, p *plain, number, now, wait int, own fix.F) api.Errno {
	t.Helper()
	got, want := r.Start(number, now, wait, own), p.start(number, now, wait, own)
	if got != want {
		t.Fatalf("Start(%d, %d, %d, %d): %d, not %d", number, now, wait, own, got, want)
	}
	holds(t, r, p)
	return got
}

func echo(t testing.TB, r *Round, p *plain, number int, rate fix.F) bool {
	t.Helper()
	own, got, want := r.Own(), r.Echo(number, rate), p.echo(number, rate)
	if got != want {
		t.Fatalf("Echo(%d, %d), own %d: %t, not %t", number, rate, own, got, want)
	}
	holds(t, r, p)
	return got
}

func fire(t testing.TB, r *Round, p *plain, now int) bool {
	t.Helper()
	got, want := r.Fire(now), p.fire(now)
	if got != want {
		t.Fatalf("Fire(%d): %t, not %t", now, got, want)
	}
	holds(t, r, p)
	return got
}

func urge(t testing.TB, r *Round, p *plain, now int) api.Errno {
	t.Helper()
	got, want := r.Urge(now), p.urge(now)
	if got != want {
		t.Fatalf("Urge(%d): %d, not %d", now, got, want)
	}
	holds(t, r, p)
	return got
}
