package wire

import (
	"bytes"
	"encoding/binary"
	"hash/crc32"
	"math"
	"math/rand/v2"
	"reflect"
	"strings"

	"terrace/api"
	"terrace/fix"
)

// used is the chapter's table of the Kinds: each one's fields, in their order.
var used = map[int]string{
	1: "Layer Seq Block Tick Data",
	2: "Seq Block Tick Data",
	3: "Layer Seq Tick Rate Rates From",
	4: "From Level Tick Echo Rate N",
	5: "From Ranges",
	6: "N Layer Level Tick",
	7: "N Tick",
}

// greatest is the chapter's table of the bounds of those numbers that have some; the least is 0.
var greatest = map[string]int{
	"From": 63, "Layer": 7, "Level": 7, "Block": 16383, "Tick": 1 << 40, "Echo": 1 << 40, "N": 16384,
}

// longest is how many things a list may have; the least is 1.
var longest = map[string]int{"Rates": 8, "Ranges": 16, "Data": 64}

// each is how many bytes one thing of a list has.
var each = map[string]int{"Rates": 8, "Ranges": 16, "Data": 1}

func fieldNames(kind int) []string { return strings.Fields(used[kind]) }

func allNames() []string {
	var names []string
	for f := range reflect.TypeFor[Packet]().Fields() {
		names = append(names, f.Name)
	}
	return names
}

// at is a packet's field by its name.
func at(p *Packet, name string) reflect.Value { return reflect.ValueOf(p).Elem().FieldByName(name) }

// wordsFits tells if a field that is used is within its bounds.
func wordsFits(p Packet, name string) bool {
	if top, ok := greatest[name]; ok {
		n := int(at(&p, name).Int())
		return n >= 0 && n <= top
	}
	if top, ok := longest[name]; ok {
		if n := at(&p, name).Len(); n < 1 || n > top {
			return false
		}
	}
	if name != "Ranges" {
		return true
	}
	for i, r := range p.Ranges {
		if !(0 <= r[0] && r[0] < r[1] && r[1] <= 16384) {
			return false
		}
		if i > 0 && !(r[0] > p.Ranges[i-1][1]) {
			return false
		}
	}
	return true
}

func isNothing(v reflect.Value) bool {
	if v.Kind() == reflect.Slice {
		return v.Len() == 0
	}
	return v.IsZero()
}

func wordsRight(p Packet) bool {
	if p.Kind < 1 || p.Kind > 7 {
		return false
	}
	uses := " " + used[p.Kind] + " "
	for _, name := range allNames() {
		if name == "Kind" {
			continue
		}
		if strings.Contains(uses, " "+name+" ") {
			if !wordsFits(p, name) {
				return false
			}
		} else if !isNothing(at(&p, name)) {
			return false
		}
	}
	return true
}

// wordsField is a field's bytes.
func wordsField(p Packet, name string) []byte {
	var b []byte
	eight := func(n uint64) { b = binary.LittleEndian.AppendUint64(b, n) }
	switch name {
	case "Seq":
		b = binary.LittleEndian.AppendUint32(b, p.Seq)
	case "Rate":
		eight(uint64(p.Rate))
	case "Rates":
		b = append(b, byte(len(p.Rates)))
		for _, f := range p.Rates {
			eight(uint64(f))
		}
	case "Ranges":
		b = append(b, byte(len(p.Ranges)))
		for _, r := range p.Ranges {
			eight(uint64(r[0]))
			eight(uint64(r[1]))
		}
	case "Data":
		b = append(append(b, byte(len(p.Data))), p.Data...)
	default:
		eight(uint64(at(&p, name).Int()))
	}
	return b
}

// wordsBody is what is sealed of a packet, which need not be right.
func wordsBody(p Packet) []byte {
	b := []byte{byte(p.Kind)}
	for _, name := range fieldNames(p.Kind) {
		b = append(b, wordsField(p, name)...)
	}
	return b
}

func wordsSeal(b []byte) []byte {
	return binary.LittleEndian.AppendUint32(bytes.Clone(b), crc32.ChecksumIEEE(b))
}

func wordsBytes(p Packet) ([]byte, api.Errno) {
	if !wordsRight(p) {
		return nil, api.ErrForm
	}
	return wordsSeal(wordsBody(p)), api.OK
}

// wordsWidth is how many bytes a field says that it has, whose first byte is told.
func wordsWidth(name string, first byte) int {
	if size, ok := each[name]; ok {
		return 1 + int(first)*size
	}
	if name == "Seq" {
		return 4
	}
	return 8
}

// wordsSet lays a field's bytes, all of which are there, into the packet.
func wordsSet(p *Packet, name string, b []byte) {
	eight := func(from int) uint64 { return binary.LittleEndian.Uint64(b[from:]) }
	switch name {
	case "Seq":
		p.Seq = binary.LittleEndian.Uint32(b)
	case "Rate":
		p.Rate = fix.F(eight(0))
	case "Rates":
		for i := 1; i < len(b); i += 8 {
			p.Rates = append(p.Rates, fix.F(eight(i)))
		}
	case "Ranges":
		for i := 1; i < len(b); i += 16 {
			p.Ranges = append(p.Ranges, [2]int{int(eight(i)), int(eight(i + 8))})
		}
	case "Data":
		p.Data = append(p.Data, b[1:]...)
	default:
		at(p, name).SetInt(int64(eight(0)))
	}
}

func wordsParse(b []byte) (Packet, api.Errno) {
	if len(b) < 4 || len(b) > 320 || !bytes.Equal(wordsSeal(b[:len(b)-4]), b) {
		return Packet{}, api.ErrSum
	}
	body := b[:len(b)-4]
	if len(body) == 0 || body[0] < 1 || body[0] > 7 {
		return Packet{}, api.ErrKind
	}
	p := Packet{Kind: int(body[0])}
	body = body[1:]
	for _, name := range fieldNames(p.Kind) {
		if len(body) == 0 || len(body) < wordsWidth(name, body[0]) {
			return Packet{}, api.ErrShort
		}
		width := wordsWidth(name, body[0])
		wordsSet(&p, name, body[:width])
		body = body[width:]
		if !wordsFits(p, name) {
			return Packet{}, api.ErrForm
		}
	}
	if len(body) > 0 {
		return Packet{}, api.ErrForm
	}
	return p, api.OK
}

func wordsEqual(p, o Packet) bool {
	for _, name := range allNames() {
		a, b := at(&p, name), at(&o, name)
		if isNothing(a) && isNothing(b) {
			continue
		}
		if !reflect.DeepEqual(a.Interface(), b.Interface()) {
			return false
		}
	}
	return true
}

// clone is the packet again, in memory of its own.
func clone(p Packet) Packet {
	p.Rates = append([]fix.F(nil), p.Rates...)
	p.Ranges = append([][2]int(nil), p.Ranges...)
	p.Data = append([]byte(nil), p.Data...)
	return p
}

// ordinary has one packet of each Kind, no field of which is nothing.
func ordinary() []Packet {
	return []Packet{
		{Kind: 1, Layer: 3, Seq: 0x04030201, Block: 0x1122, Tick: 0x0504030201, Data: []byte("abc")},
		{Kind: 2, Seq: 0xfffefdfc, Block: 1, Tick: 2, Data: []byte{0, 0xff}},
		{Kind: 3, Layer: 1, Seq: 7, Tick: 5, Rate: fix.Of(3), Rates: []fix.F{1, 0x0807060504030201, fix.Max}, From: 9},
		{Kind: 4, From: 2, Level: 6, Tick: 1 << 39, Echo: 4, Rate: fix.One + 5, N: 0x1234},
		{Kind: 5, From: 1, Ranges: [][2]int{{0, 1}, {3, 0x0504}, {0x1000, 0x2001}}},
		{Kind: 6, N: 100, Layer: 4, Level: 2, Tick: 1},
		{Kind: 7, N: 5, Tick: 1},
	}
}

func ofKind(kind int) Packet { return ordinary()[kind-1] }

func manyRates(n int) []fix.F {
	var l []fix.F
	for i := range n {
		l = append(l, fix.Max-fix.F(i*i))
	}
	return l
}

// manyRanges has as many as are asked for, the last of which ends at the top.
func manyRanges(n int) [][2]int {
	var l [][2]int
	for i := range n {
		l = append(l, [2]int{3 * i, 3*i + 2})
	}
	if n > 0 {
		l[n-1][1] = 16384
	}
	return l
}

func manyBytes(n int) []byte {
	var l []byte
	for i := range n {
		l = append(l, byte(255-i))
	}
	return l
}

// setLen gives a list so many things, each of them within its bounds.
func setLen(p *Packet, name string, n int) {
	switch name {
	case "Rates":
		p.Rates = manyRates(n)
	case "Ranges":
		p.Ranges = manyRanges(n)
	case "Data":
		p.Data = manyBytes(n)
	}
}

// setNumber gives a field that is no list the bits of n, as many as it has.
func setNumber(p *Packet, name string, n uint64) {
	switch name {
	case "Seq":
		p.Seq = uint32(n)
	case "Rate":
		p.Rate = fix.F(n)
	default:
		at(p, name).SetInt(int64(n))
	}
}

// edges has right packets: each field at its least and at its greatest, of each Kind that uses it.
func edges() []Packet {
	var list []Packet
	for _, p := range ordinary() {
		low, high := clone(p), clone(p)
		for _, name := range fieldNames(p.Kind) {
			one, top := clone(p), clone(p)
			for _, q := range []*Packet{&one, &low} {
				setLeast(q, name)
			}
			for _, q := range []*Packet{&top, &high} {
				setGreatest(q, name)
			}
			list = append(list, one, top)
		}
		list = append(list, low, high)
	}
	return list
}

func setLeast(p *Packet, name string) {
	if _, ok := longest[name]; ok {
		setLen(p, name, 1)
		return
	}
	setNumber(p, name, 0)
}

func setGreatest(p *Packet, name string) {
	if n, ok := longest[name]; ok {
		setLen(p, name, n)
		return
	}
	if n, ok := greatest[name]; ok {
		setNumber(p, name, uint64(n))
		return
	}
	setNumber(p, name, math.MaxUint64)
}

// wrongNumbers are out of the bounds of a number whose greatest one is top, some of them only by their higher bytes.
func wrongNumbers(top int) []int {
	return []int{-1, -2, -top, -top - 1, top + 1, top + 2, 1 << 41, 1<<40 + 1, 1<<48 + 1, 1 << 62, 1<<56 + top, math.MaxInt, math.MinInt, math.MinInt + 1, math.MinInt + top}
}

// wrongRanges are none that a packet may have, though they are as many as it may have.
func wrongRanges() [][][2]int {
	list := [][][2]int{
		{{3, 3}}, {{0, 0}}, {{16384, 16384}}, {{5, 3}}, {{1, 0}}, {{16384, 0}},
		{{-1, 3}}, {{-2, -1}}, {{-1, 0}}, {{math.MinInt, 1}}, {{0, math.MinInt}},
		{{0, 16385}}, {{16383, 16385}}, {{16384, 16385}}, {{0, math.MaxInt}}, {{math.MinInt, math.MaxInt}},
		{{3, 5}, {5, 6}}, {{0, 1}, {1, 2}}, {{3, 5}, {4, 6}}, {{3, 5}, {3, 6}}, {{3, 9}, {4, 5}}, {{3, 5}, {3, 5}},
		{{7, 9}, {3, 5}}, {{7, 9}, {5, 7}}, {{7, 9}, {0, 8}}, {{3, 5}, {-9, -8}}, {{3, 5}, {7, 7}}, {{3, 5}, {8, 7}}, {{3, 5}, {16384, 16385}},
		{{3, 3}, {5, 6}}, {{5, 3}, {6, 7}}, {{-1, 3}, {5, 6}}, {{0, 16384}, {16385, 16386}}, {{0, 1 << 40}, {1<<40 + 1, 1<<40 + 2}},
	}
	// Among many, each in turn may be the wrong one.
	for i := range 16 {
		empty, touching, back := manyRanges(16), manyRanges(16), manyRanges(16)
		empty[i][1] = empty[i][0]
		back[i] = [2]int{back[i][1], back[i][0]}
		list = append(list, empty, back)
		if i > 0 {
			touching[i][0] = touching[i-1][1]
			list = append(list, touching)
		}
	}
	return list
}

// outOfBounds has packets of which one field that is used isn't within its bounds, and that field's name.
func outOfBounds() (list []Packet, names []string) {
	add := func(p Packet, name string) { list, names = append(list, p), append(names, name) }
	for _, p := range ordinary() {
		for _, name := range fieldNames(p.Kind) {
			if top, ok := greatest[name]; ok {
				for _, n := range wrongNumbers(top) {
					q := clone(p)
					setNumber(&q, name, uint64(n))
					add(q, name)
				}
			}
			if top, ok := longest[name]; ok {
				for _, n := range []int{0, top + 1} {
					q := clone(p)
					setLen(&q, name, n)
					add(q, name)
				}
			}
			if name == "Ranges" {
				for _, l := range wrongRanges() {
					q := clone(p)
					q.Ranges = l
					add(q, name)
				}
			}
		}
	}
	return list, names
}

// idle are the fields that a Kind doesn't use.
func idle(kind int) []string {
	var names []string
	for _, name := range allNames() {
		if name != "Kind" && !strings.Contains(" "+used[kind]+" ", " "+name+" ") {
			names = append(names, name)
		}
	}
	return names
}

// withIdle has packets that are right but for one field that their Kind doesn't use: that one is something.
func withIdle() []Packet {
	var list []Packet
	for _, p := range append(ordinary(), edges()...) {
		for _, name := range idle(p.Kind) {
			if _, ok := longest[name]; ok {
				one, top, over := clone(p), clone(p), clone(p)
				setLen(&one, name, 1)
				setLen(&top, name, longest[name])
				setLen(&over, name, longest[name]+1)
				list = append(list, one, top, over, withNoughts(p, name))
				continue
			}
			for _, n := range []uint64{1, 2, 1 << 31, math.MaxUint64, math.MaxInt64} {
				q := clone(p)
				setNumber(&q, name, n)
				list = append(list, q)
			}
		}
	}
	return list
}

// withNoughts gives a list one thing that is itself nothing: the list is not.
func withNoughts(p Packet, name string) Packet {
	q := clone(p)
	switch name {
	case "Rates":
		q.Rates = make([]fix.F, 1)
	case "Ranges":
		q.Ranges = make([][2]int, 1)
	case "Data":
		q.Data = make([]byte, 1)
	}
	return q
}

// noKinds has packets whose Kind is none, though all else would be right for one, and for those that one byte would make a Kind.
func noKinds() []Packet {
	list := []Packet{{}}
	for _, kind := range []int{0, 8, 9, 10, 127, 128, 255, 256, -1, -7, -8, math.MinInt, math.MinInt + 1, math.MaxInt, math.MaxInt - 1} {
		list = append(list, Packet{Kind: kind})
		for _, p := range append(ordinary(), edges()...) {
			p.Kind = kind
			list = append(list, p)
		}
	}
	for _, p := range append(ordinary(), edges()...) {
		for _, more := range []int{256, -256, 1 << 16, 1 << 32, 1 << 40, math.MinInt, -8, 8} {
			q := p
			q.Kind += more
			list = append(list, q)
		}
	}
	return list
}

// anyPacket is of any numbers, most of them near to what is right.
func anyPacket(chance *rand.Rand) Packet {
	p := clone(ofKind(1 + chance.IntN(7)))
	for _, name := range allNames() {
		if chance.IntN(4) > 0 || name == "Kind" && chance.IntN(8) > 0 {
			continue
		}
		if top, ok := longest[name]; ok {
			setLen(&p, name, chance.IntN(top+2))
			if name == "Ranges" && len(p.Ranges) > 0 && chance.IntN(2) == 0 {
				p.Ranges[chance.IntN(len(p.Ranges))][chance.IntN(2)] += chance.IntN(5) - 2
			}
			continue
		}
		top := greatest[name]
		setNumber(&p, name, uint64([]int{0, 1, top, top + 1, -1, chance.Int(), chance.IntN(top + 1)}[chance.IntN(7)]))
	}
	return p
}
