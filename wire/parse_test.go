package wire

import (
	"bytes"
	"encoding/binary"
	"math"
	"math/rand/v2"
	"testing"

	"terrace/api"
	"terrace/crc"
)

// checkParse holds Parse against the chapter's words, and what it tells against the bytes that it was handed.
func checkParse(t testing.TB, b []byte) {
	t.Helper()
	p, e := Parse(b)
	want, wantE := wordsParse(b)
	if e != wantE || !wordsEqual(p, want) {
		t.Errorf("Parse(%x): %+v, %d, not %+v, %d", b, p, e, want, wantE)
	}
	if e != api.OK {
		return
	}
	if again, e := p.Bytes(); e != api.OK || !bytes.Equal(again, b) || p.Size() != len(b) {
		t.Errorf("Parse(%x) tells a packet whose bytes are %x, %d", b, again, e)
	}
}

// refused is for bytes that Parse must not take.
func refused(t testing.TB, b []byte, want api.Errno) {
	t.Helper()
	if p, e := Parse(b); e != want || !wordsEqual(p, Packet{}) {
		t.Errorf("Parse(%x): %+v, %d, not %d", b, p, e, want)
	}
	checkParse(t, b)
}

func refusedBody(t testing.TB, body []byte, want api.Errno) {
	t.Helper()
	refused(t, crc.Seal(body), want)
}

func rightOnes() []Packet { return append(ordinary(), edges()...) }

// P7.2: Parse of Bytes is the packet.
func TestParse(t *testing.T) {
	for _, p := range rightOnes() {
		b, _ := p.Bytes()
		if q, e := Parse(b); e != api.OK || !wordsEqual(p, q) {
			t.Errorf("Parse of %+v: %+v, %d", p, q, e)
		}
		checkParse(t, b)
	}
}

// P7.2: bytes that are not sealed.
func TestParseNotSealed(t *testing.T) {
	for _, b := range [][]byte{nil, {}, {7}, {7, 0, 0}, []byte("abcd"), make([]byte, 5), make([]byte, 21), bytes.Repeat([]byte{7}, 21)} {
		refused(t, b, api.ErrSum)
	}
	for _, p := range rightOnes() {
		b, _ := p.Bytes()
		body := b[:len(b)-4]
		refused(t, body, api.ErrSum)
		// The sum must be that of all bytes, and stand lowest byte first.
		s := b[len(b)-4:]
		refused(t, append(bytes.Clone(body), s[3], s[2], s[1], s[0]), api.ErrSum)
		refused(t, append(bytes.Clone(body), ^s[0], ^s[1], ^s[2], ^s[3]), api.ErrSum)
		refused(t, binary.LittleEndian.AppendUint32(bytes.Clone(body), crc.Sum(body[1:])), api.ErrSum)
		for cut := range len(b) {
			checkParse(t, b[:cut])
			checkParse(t, b[cut:])
		}
	}
}

// P7.2: a packet's bytes of which one bit is turned are ErrSum, whichever it is.
func TestParseTurned(t *testing.T) {
	for _, p := range rightOnes() {
		b, _ := p.Bytes()
		for bit := range 8 * len(b) {
			if q, e := Parse(crc.Turn(b, bit)); e != api.ErrSum || !wordsEqual(q, Packet{}) {
				t.Errorf("Parse of %x, its bit %d turned: %+v, %d", b, bit, q, e)
			}
		}
	}
}

// P7.2: more than MaxPacket bytes are refused though they are sealed, up to MaxPacket they are looked into.
func TestParseMoreThanMaxPacket(t *testing.T) {
	for _, p := range rightOnes() {
		b, _ := p.Bytes()
		body := b[:len(b)-4]
		for _, n := range []int{312, 315, 316} {
			refusedBody(t, append(bytes.Clone(body), make([]byte, n-len(body))...), api.ErrForm)
		}
		for _, n := range []int{317, 318, 320, 321, 400, 1 << 16} {
			refusedBody(t, append(bytes.Clone(body), make([]byte, n-len(body))...), api.ErrSum)
		}
	}
	refusedBody(t, make([]byte, 316), api.ErrKind)
	refusedBody(t, make([]byte, 317), api.ErrSum)
	// A list of so many would go on past MaxPacket.
	long := append([]byte{1}, make([]byte, 28)...)
	refusedBody(t, append(append(long, 255), make([]byte, 255)...), api.ErrForm)
	refusedBody(t, append(append(long, 255), make([]byte, 287)...), api.ErrSum)
}

// P7.2: what was sealed must begin with a Kind, whatever is behind it.
func TestParseNoKind(t *testing.T) {
	refusedBody(t, nil, api.ErrKind)
	refusedBody(t, []byte{}, api.ErrKind)
	for first := range 256 {
		want := api.ErrKind
		if first >= 1 && first <= 7 {
			want = api.ErrShort
		}
		refusedBody(t, []byte{byte(first)}, want)
		for _, p := range ordinary() {
			b := wordsBody(p)
			b[0] = byte(first)
			if want == api.ErrKind {
				refusedBody(t, b, api.ErrKind)
			}
			checkParse(t, crc.Seal(b))
		}
	}
}

// P7.2: a right packet's bytes, cut off at each place and sealed anew.
func TestParseCutOff(t *testing.T) {
	for _, p := range rightOnes() {
		body := wordsBody(p)
		refusedBody(t, body[:0], api.ErrKind)
		for cut := 1; cut < len(body); cut++ {
			refusedBody(t, body[:cut], api.ErrShort)
		}
	}
}

// P7.2: a right packet's bytes, and one more, or many.
func TestParseGoesOn(t *testing.T) {
	for _, p := range rightOnes() {
		body := wordsBody(p)
		for x := range 256 {
			refusedBody(t, append(bytes.Clone(body), byte(x)), api.ErrForm)
		}
		for n := 2; n <= 46; n++ {
			refusedBody(t, append(bytes.Clone(body), make([]byte, n)...), api.ErrForm)
		}
		if double := append(bytes.Clone(body), body...); len(double) <= 316 {
			refusedBody(t, double, api.ErrForm)
		}
	}
}

// fieldSpan is where a field's bytes begin and end in what is sealed.
func fieldSpan(p Packet, name string) (from, to int) {
	from = 1
	for _, n := range fieldNames(p.Kind) {
		width := len(wordsField(p, n))
		if n == name {
			return from, from + width
		}
		from += width
	}
	return from, from
}

// P7.2: each field in turn out of its bounds; where the bytes end ahead of its end that is found first, behind it they are cut off in vain.
func TestParseOutOfBounds(t *testing.T) {
	list, names := outOfBounds()
	for i, p := range list {
		body := wordsBody(p)
		from, to := fieldSpan(p, names[i])
		if to > 316 {
			t.Fatalf("%+v is too long to show anything", p)
		}
		for cut := 1; cut <= len(body); cut++ {
			if cut < to {
				refusedBody(t, body[:cut], api.ErrShort)
			} else {
				refusedBody(t, body[:cut], api.ErrForm)
			}
		}
		if from < 1 || to <= from {
			t.Errorf("%s lies from %d to %d", names[i], from, to)
		}
		refusedBody(t, append(bytes.Clone(body), 0), api.ErrForm)
	}
}

// P7.2: of two fields that are out of their bounds the first one is found, and it is found ahead of an end that is cut off.
func TestParseTwoOutOfBounds(t *testing.T) {
	for _, p := range ordinary() {
		names := fieldNames(p.Kind)
		for i, one := range names {
			for _, two := range names[i+1:] {
				_, a := greatest[one]
				_, b := greatest[two]
				if !a || !b {
					continue
				}
				q := clone(p)
				setNumber(&q, one, math.MaxUint64)
				setNumber(&q, two, 1<<63)
				body := wordsBody(q)
				_, to := fieldSpan(q, one)
				refusedBody(t, body, api.ErrForm)
				for cut := 1; cut < len(body); cut++ {
					if cut < to {
						refusedBody(t, body[:cut], api.ErrShort)
					} else {
						refusedBody(t, body[:cut], api.ErrForm)
					}
				}
			}
		}
	}
}

// P7.2: any of a number's eight bytes may take it out of its bounds, and a Seq and a Rate have none.
func TestParseNumbers(t *testing.T) {
	for _, p := range ordinary() {
		for _, name := range fieldNames(p.Kind) {
			if _, ok := longest[name]; ok {
				continue
			}
			from, to := fieldSpan(p, name)
			for place := from; place < to; place++ {
				for _, x := range []byte{0, 1, 2, 0x3f, 0x40, 0x7f, 0x80, 0xff} {
					body := wordsBody(p)
					body[place] = x
					checkParse(t, crc.Seal(body))
				}
			}
			top, bounded := greatest[name]
			high := wordsBody(p)
			copy(high[from:to], bytes.Repeat([]byte{0xff}, to-from))
			if bounded {
				refusedBody(t, high, api.ErrForm)
			} else if _, e := Parse(crc.Seal(high)); e != api.OK {
				t.Errorf("%s of all bits: %d", name, e)
			}
			for _, n := range append(wrongNumbers(top), top) {
				q := clone(p)
				setNumber(&q, name, uint64(n))
				checkParse(t, crc.Seal(wordsBody(q)))
			}
		}
	}
}

// listEdges are how many things a list may be said to have: about its bounds, about how many there are, and far above.
func listEdges(top, have int) []int {
	return []int{0, 1, 2, top - 1, top, top + 1, top + 2, have, have + 1, 127, 128, 254, 255}
}

// P7.2: a count that is 0 or too great is out of its bounds if so many are there; one that says more than there is goes on past the end.
func TestParseCounts(t *testing.T) {
	for _, p := range ordinary() {
		for _, name := range fieldNames(p.Kind) {
			top, ok := longest[name]
			if !ok {
				continue
			}
			for have := range top + 3 {
				q := clone(p)
				setLen(&q, name, have)
				from, to := fieldSpan(q, name)
				body := wordsBody(q)
				for _, said := range listEdges(top, have) {
					b := bytes.Clone(body)
					b[from] = byte(said)
					checkParse(t, crc.Seal(b))
					if said != 0 && said > have {
						refusedBody(t, b[:to], api.ErrShort)
					}
					if said == 0 || said > top && said <= have {
						refusedBody(t, b, api.ErrForm)
						refusedBody(t, b[:to], api.ErrForm)
					}
				}
				refusedBody(t, body[:from], api.ErrShort)
			}
		}
	}
}

// P7.2: a list whose count is too great, and which is cut off, ends within itself: its bounds are not asked any more.
func TestParseCountTooGreatAndCutOff(t *testing.T) {
	for _, p := range ordinary() {
		for _, name := range fieldNames(p.Kind) {
			top, ok := longest[name]
			if !ok {
				continue
			}
			q := clone(p)
			setLen(&q, name, top+1)
			from, to := fieldSpan(q, name)
			body := wordsBody(q)
			for cut := from; cut < to; cut++ {
				refusedBody(t, body[:cut], api.ErrShort)
			}
			refusedBody(t, body[:to], api.ErrForm)
		}
	}
}

// P7.2: no other bytes than a packet's own are parsed as it: those with any byte another one are another packet's, or none's.
func TestParseOtherByte(t *testing.T) {
	for _, p := range ordinary() {
		body := wordsBody(p)
		for place := range body {
			for x := range 256 {
				b := bytes.Clone(body)
				if b[place] == byte(x) {
					continue
				}
				b[place] = byte(x)
				checkParse(t, crc.Seal(b))
				if q, e := Parse(crc.Seal(b)); e == api.OK && q.Equal(p) {
					t.Errorf("%x is parsed as %x is", b, body)
				}
			}
		}
	}
}

// scramble changes some of the bytes, leaves some out, or lays some more.
func scramble(chance *rand.Rand, b []byte) []byte {
	b = bytes.Clone(b)
	for range chance.IntN(4) {
		place := chance.IntN(len(b) + 1)
		switch chance.IntN(4) {
		case 0:
			b = b[:place]
		case 1:
			b = append(b[:place], append([]byte{byte(chance.Uint32())}, b[place:]...)...)
		default:
			if place < len(b) {
				b[place] = []byte{0, 1, 8, 16, 17, 64, 65, 255, byte(chance.Uint32())}[chance.IntN(9)]
			}
		}
	}
	return b
}

func TestParseAnyBytes(t *testing.T) {
	chance := rand.New(rand.NewPCG(7, 3))
	seen := map[api.Errno]int{}
	for range 50000 {
		p := anyPacket(chance)
		p.Kind = 1 + chance.IntN(7)
		b := crc.Seal(scramble(chance, wordsBody(p)))
		checkParse(t, b)
		_, e := Parse(b)
		seen[e]++
		checkParse(t, scramble(chance, b))
	}
	for _, e := range []api.Errno{api.OK, api.ErrForm, api.ErrShort, api.ErrKind} {
		if seen[e] < 100 {
			t.Errorf("the error %d came %d times: that shows too little", e, seen[e])
		}
	}
}
