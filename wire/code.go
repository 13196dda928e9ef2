package wire

import "terrace/fix"

// How many bytes a Seq has, and any other number.
const (
	seqSize    = 4
	numberSize = 8
)

// writer lays bytes behind one another.
type writer struct {
	b []byte
}

// lay puts so many bytes of x, the lowest one first.
func (w *writer) lay(x uint64, size int) {
	for i := range size {
		w.octet(byte(x >> (8 * i)))
	}
}

func (w *writer) octet(x byte) { w.b = append(w.b, x) }

func (w *writer) seq(n uint32) { w.lay(uint64(n), seqSize) }

func (w *writer) number(n int) { w.lay(uint64(n), numberSize) }

func (w *writer) rate(f fix.F) { w.lay(uint64(f), numberSize) }

func (w *writer) pair(l [2]int) {
	w.number(l[0])
	w.number(l[1])
}

// putList puts how many there are, and each.
func putList[T any](w *writer, list []T, put func(T)) {
	w.octet(byte(len(list)))
	for _, x := range list {
		put(x)
	}
}

// reader takes bytes off from the front. Once it fell short, what it tells is worth nothing: so no step need ask.
type reader struct {
	rest  []byte
	short bool
}

// take is the number of the next so many bytes, the lowest one first.
func (r *reader) take(size int) uint64 {
	if len(r.rest) < size {
		r.short = true
		return 0
	}
	var x uint64
	for i, b := range r.rest[:size] {
		x |= uint64(b) << (8 * i)
	}
	r.rest = r.rest[size:]
	return x
}

func (r *reader) octet() byte { return byte(r.take(1)) }

func (r *reader) seq() uint32 { return uint32(r.take(seqSize)) }

// number is below 0 where the bytes say 2^63 or more: either is out of all bounds.
func (r *reader) number() int { return int(r.take(numberSize)) }

func (r *reader) rate() fix.F { return fix.F(r.take(numberSize)) }

func (r *reader) pair() [2]int {
	a := r.number()
	return [2]int{a, r.number()}
}

// getList gets as many as are said to be there.
func getList[T any](r *reader, get func() T) []T {
	list := make([]T, int(r.octet()))
	for i := range list {
		list[i] = get()
	}
	return list
}
