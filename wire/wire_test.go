package wire

import (
	"bytes"
	"math"
	"math/rand/v2"
	"strings"
	"testing"

	"terrace/api"
	"terrace/fix"
)

// The Kinds are constants without a type, as the chapter has them.
const (
	_ byte    = Data
	_ float64 = End
)

func TestKinds(t *testing.T) {
	if got := [...]int{Data, Repair, Marker, Report, Nak, Announce, End}; got != [...]int{1, 2, 3, 4, 5, 6, 7} {
		t.Errorf("Kinds: %d", got)
	}
}

// checkPacket holds Right, Bytes, Size, Equal, and Parse of its bytes, against the chapter's words.
func checkPacket(t testing.TB, p Packet) {
	t.Helper()
	if got, want := p.Right(), wordsRight(p); got != want {
		t.Errorf("Right of %+v: %t", p, got)
	}
	want, wantE := wordsBytes(p)
	b, e := p.Bytes()
	if e != wantE || !bytes.Equal(b, want) {
		t.Errorf("Bytes of %+v: %x, %d, not %x, %d", p, b, e, want, wantE)
	}
	if got := p.Size(); got != len(want) || got > api.MaxPacket {
		t.Errorf("Size of %+v: %d, not %d", p, got, len(want))
	}
	if !p.Equal(p) || !p.Equal(clone(p)) || !clone(p).Equal(p) {
		t.Errorf("%+v isn't the same as itself", p)
	}
	if wantE == api.OK {
		checkBack(t, p)
	}
}

// checkBack is for right packets: their bytes are parsed as they were, and no other bytes are.
func checkBack(t testing.TB, p Packet) {
	t.Helper()
	b, _ := p.Bytes()
	q, e := Parse(b)
	if e != api.OK || !wordsEqual(p, q) || !q.Equal(p) || !p.Equal(q) || !q.Right() {
		t.Errorf("Parse of Bytes of %+v: %+v, %d", p, q, e)
	}
	if again, e := q.Bytes(); e != api.OK || !bytes.Equal(again, b) {
		t.Errorf("Bytes of Parse of %x: %x, %d", b, again, e)
	}
}

func checkRight(t testing.TB, p Packet) {
	t.Helper()
	if !p.Right() || p.Size() == 0 {
		t.Errorf("%+v: %t, %d", p, p.Right(), p.Size())
	}
	checkPacket(t, p)
}

func checkWrong(t testing.TB, p Packet) {
	t.Helper()
	b, e := p.Bytes()
	if p.Right() || e != api.ErrForm || len(b) != 0 || p.Size() != 0 {
		t.Errorf("%+v: %t, %x, %d, %d", p, p.Right(), b, e, p.Size())
	}
	checkPacket(t, p)
}

// spread is bytes as they are written in hexadecimal, with blanks between them.
func spread(b []byte) string {
	const digits = "0123456789abcdef"
	var s strings.Builder
	for i, x := range b {
		if i > 0 {
			s.WriteByte(' ')
		}
		s.WriteByte(digits[x>>4])
		s.WriteByte(digits[x&15])
	}
	return s.String()
}

// The chapter's example, byte by byte.
func TestExample(t *testing.T) {
	p := Packet{Kind: End, N: 5, Tick: 1}
	b, e := p.Bytes()
	want := []byte{7, 5, 0, 0, 0, 0, 0, 0, 0, 1, 0, 0, 0, 0, 0, 0, 0, 0x7e, 0x50, 0x8e, 0x5f}
	if e != api.OK || !bytes.Equal(b, want) || p.Size() != 21 {
		t.Errorf("Bytes: %x, %d; Size: %d", b, e, p.Size())
	}
	if q, e := Parse(want); e != api.OK || !wordsEqual(p, q) {
		t.Errorf("Parse: %+v, %d", q, e)
	}
}

// P7.1: the bytes of a packet of each Kind, as they are written down by the chapter's words.
func TestBytes(t *testing.T) {
	for i, want := range []string{
		"01 03 00 00 00 00 00 00 00 01 02 03 04 22 11 00 00 00 00 00 00 01 02 03 04 05 00 00 00 03 61 62 63",
		"02 fc fd fe ff 01 00 00 00 00 00 00 00 02 00 00 00 00 00 00 00 02 00 ff",
		"03 01 00 00 00 00 00 00 00 07 00 00 00 05 00 00 00 00 00 00 00 00 00 00 00 03 00 00 00 03" +
			" 01 00 00 00 00 00 00 00 01 02 03 04 05 06 07 08 ff ff ff ff ff ff ff ff 09 00 00 00 00 00 00 00",
		"04 02 00 00 00 00 00 00 00 06 00 00 00 00 00 00 00 00 00 00 00 80 00 00 00 04 00 00 00 00 00 00 00 05 00 00 00 01 00 00 00 34 12 00 00 00 00 00 00",
		"05 01 00 00 00 00 00 00 00 03 00 00 00 00 00 00 00 00 01 00 00 00 00 00 00 00 03 00 00 00 00 00 00 00 04 05 00 00 00 00 00 00 00 10 00 00 00 00 00 00 01 20 00 00 00 00 00 00",
		"06 64 00 00 00 00 00 00 00 04 00 00 00 00 00 00 00 02 00 00 00 00 00 00 00 01 00 00 00 00 00 00 00",
		"07 05 00 00 00 00 00 00 00 01 00 00 00 00 00 00 00",
	} {
		p := ordinary()[i]
		b, e := p.Bytes()
		if e != api.OK || len(b) < 4 || spread(b[:len(b)-4]) != want {
			t.Errorf("Bytes of %+v: %s, %d", p, spread(b), e)
			continue
		}
		if !bytes.Equal(wordsSeal(b[:len(b)-4]), b) {
			t.Errorf("%+v isn't sealed: %s", p, spread(b))
		}
		checkRight(t, p)
	}
}

func TestNoKind(t *testing.T) {
	for _, p := range noKinds() {
		checkWrong(t, p)
	}
}

// P7.1: each field at its edges is right, one below and one above it isn't.
func TestEdges(t *testing.T) {
	for _, p := range edges() {
		checkRight(t, p)
	}
	list, _ := outOfBounds()
	for _, p := range list {
		checkWrong(t, p)
	}
}

// P7.1: a list has at least one thing and at most so many.
func TestLists(t *testing.T) {
	for _, p := range ordinary() {
		for _, name := range fieldNames(p.Kind) {
			top, ok := longest[name]
			if !ok {
				continue
			}
			for n := range 2 * top {
				q := clone(p)
				setLen(&q, name, n)
				if n >= 1 && n <= top {
					checkRight(t, q)
				} else {
					checkWrong(t, q)
				}
			}
			// How many are in one byte: these would seem to be as many as may be.
			for _, n := range []int{255, 256, 257, 256 + top} {
				q := clone(p)
				setLen(&q, name, n)
				checkWrong(t, q)
			}
		}
	}
}

// P7.1: ranges may lie one number apart, and at both ends of the object; their numbers may be no others.
func TestRanges(t *testing.T) {
	for _, l := range [][][2]int{
		{{0, 1}}, {{0, 16384}}, {{16383, 16384}}, {{3, 5}, {6, 7}}, {{0, 1}, {2, 3}}, {{0, 16382}, {16383, 16384}}, {{5, 6}, {16000, 16001}},
	} {
		checkRight(t, Packet{Kind: Nak, Ranges: l})
	}
	for _, l := range wrongRanges() {
		checkWrong(t, Packet{Kind: Nak, Ranges: l})
	}
	checkWrong(t, Packet{Kind: Nak})
	checkWrong(t, Packet{Kind: Nak, Ranges: [][2]int{}})
}

// P7.1: what a Kind doesn't use must be nothing, one field at a time.
func TestIdleFields(t *testing.T) {
	for _, p := range withIdle() {
		checkWrong(t, p)
	}
}

// P7.1: nil and empty lists are one, where a Kind uses them and where it doesn't.
func TestNilAndEmpty(t *testing.T) {
	for _, p := range append(ordinary(), edges()...) {
		q := clone(p)
		if len(q.Rates) == 0 {
			q.Rates = []fix.F{}
		}
		if len(q.Ranges) == 0 {
			q.Ranges = [][2]int{}
		}
		if len(q.Data) == 0 {
			q.Data = []byte{}
		}
		if !p.Equal(q) || !q.Equal(p) {
			t.Errorf("%+v and its like with empty lists are not one", p)
		}
		checkRight(t, q)
	}
	for _, kind := range []int{Data, Repair, Marker, Nak} {
		checkWrong(t, Packet{Kind: kind})
		checkWrong(t, Packet{Kind: kind, Rates: []fix.F{}, Ranges: [][2]int{}, Data: []byte{}})
	}
	checkRight(t, Packet{Kind: Report, Rates: []fix.F{}, Ranges: [][2]int{}, Data: []byte{}})
	checkRight(t, Packet{Kind: Report})
}

// P7.1: how many bytes a packet has at most, and each Kind's least and greatest size.
func TestSize(t *testing.T) {
	most := 0
	for kind, want := range map[int][2]int{Data: {35, 98}, Repair: {27, 90}, Marker: {50, 106}, Report: {53, 53}, Nak: {30, 270}, Announce: {37, 37}, End: {21, 21}} {
		low, high := Packet{Kind: kind}, Packet{Kind: kind}
		for _, name := range fieldNames(kind) {
			setLeast(&low, name)
			setGreatest(&high, name)
		}
		if got := [2]int{low.Size(), high.Size()}; got != want {
			t.Errorf("Size of Kind %d: %d, not %d", kind, got, want)
		}
		most = max(most, high.Size())
	}
	if most > api.MaxPacket {
		t.Errorf("%d bytes are more than %d", most, api.MaxPacket)
	}
}

// others are packets that have one field changed, which needn't be right, and so needn't the packet be.
func others(p Packet) []Packet {
	var list []Packet
	for _, name := range allNames() {
		if _, ok := longest[name]; ok {
			list = append(list, otherLists(p, name)...)
			continue
		}
		// A change of any single bit, each field's highest one too.
		for bit := range at(&p, name).Type().Bits() {
			q := clone(p)
			if f := at(&q, name); f.CanInt() {
				f.SetInt(f.Int() ^ 1<<bit)
			} else {
				f.SetUint(f.Uint() ^ 1<<bit)
			}
			list = append(list, q)
		}
	}
	return list
}

// otherLists have one thing more, one less, or one other.
func otherLists(p Packet, name string) []Packet {
	more, none, first := clone(p), clone(p), withNoughts(p, name)
	list := []Packet{first}
	switch name {
	case "Rates":
		more.Rates, none.Rates = append(more.Rates, 0), nil
		for i := range p.Rates {
			q, less := clone(p), clone(p)
			q.Rates[i] ^= 1 << 63
			less.Rates = append(less.Rates[:i], p.Rates[i+1:]...)
			list = append(list, q, less)
		}
	case "Ranges":
		more.Ranges, none.Ranges = append(more.Ranges, [2]int{}), nil
		for i := range p.Ranges {
			q, r, less := clone(p), clone(p), clone(p)
			q.Ranges[i][0]++
			r.Ranges[i][1]++
			less.Ranges = append(less.Ranges[:i], p.Ranges[i+1:]...)
			list = append(list, q, r, less)
		}
	case "Data":
		more.Data, none.Data = append(more.Data, 0), nil
		for i := range p.Data {
			q, less := clone(p), clone(p)
			q.Data[i] ^= 1
			less.Data = append(less.Data[:i], p.Data[i+1:]...)
			list = append(list, q, less)
		}
	}
	list = append(list, more)
	if !isNothing(at(&p, name)) {
		list = append(list, none)
	}
	return list
}

// full is no right packet: none of its fields is nothing.
func full() Packet {
	return Packet{Kind: 3, From: 1, Layer: 2, Seq: 3, Block: 4, Tick: 5, Echo: 6, Level: 7, N: 8, Rate: 9, Rates: manyRates(3), Ranges: manyRanges(3), Data: manyBytes(3)}
}

// P7.1: Equal tells of each field that is another one, of packets that are right and of those that aren't.
func TestEqual(t *testing.T) {
	for _, p := range append(ordinary(), Packet{}, full(), Packet{Kind: math.MinInt, From: -1, Tick: math.MaxInt, Seq: math.MaxUint32, Rate: fix.Max}) {
		if !p.Equal(p) || !p.Equal(clone(p)) {
			t.Errorf("%+v isn't the same as itself", p)
		}
		for _, q := range others(p) {
			if p.Equal(q) || q.Equal(p) {
				t.Errorf("%+v and %+v are not the same", p, q)
			}
			if !q.Equal(clone(q)) {
				t.Errorf("%+v isn't the same as itself", q)
			}
		}
	}
}

// P7.1: a value that stands in another field makes another packet.
func TestEqualOtherField(t *testing.T) {
	var list []Packet
	for _, name := range allNames() {
		p := Packet{}
		if _, ok := longest[name]; ok {
			p = withNoughts(p, name)
		} else {
			setNumber(&p, name, 1)
		}
		list = append(list, p)
	}
	for i, p := range list {
		for j, q := range list {
			if p.Equal(q) != (i == j) {
				t.Errorf("Equal of %+v and %+v: %t", p, q, p.Equal(q))
			}
		}
	}
}

func TestEqualOfAny(t *testing.T) {
	chance := rand.New(rand.NewPCG(7, 1))
	for range 3000 {
		p, q := anyPacket(chance), anyPacket(chance)
		if got, want := p.Equal(q), wordsEqual(p, q); got != want {
			t.Errorf("Equal of %+v and %+v: %t", p, q, got)
		}
	}
}

// P7.1: packets of any fields, most of which are near to right ones.
func TestAnyPacket(t *testing.T) {
	chance := rand.New(rand.NewPCG(7, 2))
	right := 0
	for range 20000 {
		p := anyPacket(chance)
		if p.Right() {
			right++
		}
		checkPacket(t, p)
	}
	if right < 1000 || right > 19000 {
		t.Errorf("%d of 20000 are right: they show too little", right)
	}
}
