package wire

import (
	"bytes"
	"math"
	"reflect"
	"testing"

	"terrace/api"
	"terrace/crc"
	"terrace/fix"
)

// spare is room behind a list, with things in it that would show a change.
const spare = 8

// roomy is the packet with lists that have spare room; whole are the same lists with that room.
func roomy(p Packet) (handed, whole Packet) {
	whole = clone(p)
	for i := range spare {
		whole.Rates = append(whole.Rates, fix.F(1000+i))
		whole.Ranges = append(whole.Ranges, [2]int{2000 + i, 3000 + i})
		whole.Data = append(whole.Data, byte(0xa0+i))
	}
	handed = p
	handed.Rates, handed.Ranges, handed.Data = whole.Rates[:len(p.Rates)], whole.Ranges[:len(p.Ranges)], whole.Data[:len(p.Data)]
	return handed, whole
}

func roomyBytes(b []byte) (handed, whole []byte) {
	whole = append(bytes.Clone(b), bytes.Repeat([]byte{0xa5}, spare)...)
	return whole[:len(b)], whole
}

// stretched is the packet with each list out to the end of its spare room.
func stretched(p Packet) Packet {
	p.Rates, p.Ranges, p.Data = p.Rates[:cap(p.Rates)], p.Ranges[:cap(p.Ranges)], p.Data[:cap(p.Data)]
	return p
}

// spoil changes all of a packet's lists, their spare room too.
func spoil(p Packet) {
	p = stretched(p)
	for i := range p.Rates {
		p.Rates[i] ^= fix.Max
	}
	for i := range p.Ranges {
		p.Ranges[i] = [2]int{^p.Ranges[i][0], ^p.Ranges[i][1]}
	}
	spoilBytes(p.Data)
}

func spoilBytes(b []byte) {
	whole := b[:cap(b)]
	for i := range whole {
		whole[i] ^= 0xff
	}
}

// handedIn has packets that are right, and some that are not.
func handedIn() []Packet {
	list, _ := outOfBounds()
	list = append(list, rightOnes()...)
	return append(list, Packet{}, full(), Packet{Kind: Nak, Ranges: [][2]int{{7, 9}, {3, 5}}}, Packet{Kind: Data, Data: manyBytes(300)})
}

// What is handed in is as it was, its spare room too.
func TestPacketIsKept(t *testing.T) {
	for _, p := range handedIn() {
		handed, whole := roomy(p)
		before, beforeHanded := clone(whole), clone(handed)
		other, otherWhole := roomy(p)
		handed.Right()
		handed.Bytes()
		handed.Size()
		handed.Equal(other)
		other.Equal(handed)
		if !wordsEqual(whole, before) || !wordsEqual(otherWhole, before) || !wordsEqual(handed, beforeHanded) || !wordsEqual(other, beforeHanded) {
			t.Errorf("%+v, handed in, is %+v", before, whole)
		}
	}
}

func TestBytesAreKept(t *testing.T) {
	for _, p := range handedIn() {
		for _, b := range [][]byte{crc.Seal(wordsBody(p)), wordsBody(p)} {
			handed, whole := roomyBytes(b)
			before := bytes.Clone(whole)
			Parse(handed)
			if !bytes.Equal(whole, before) {
				t.Errorf("%x, handed in, is %x", before, whole)
			}
		}
	}
}

// A change in the bytes that are told doesn't show in the packet, nor in another answer, and none in the packet shows in them.
func TestBytesAreNew(t *testing.T) {
	for _, p := range rightOnes() {
		handed, whole := roomy(p)
		before := clone(whole)
		want, _ := wordsBytes(p)
		one, _ := handed.Bytes()
		two, _ := handed.Bytes()
		spoilBytes(one)
		if !wordsEqual(whole, before) {
			t.Errorf("the bytes of %+v show in it", p)
		}
		if !bytes.Equal(two, want) {
			t.Errorf("the bytes of %+v show in others", p)
		}
		room := bytes.Clone(two[:cap(two)])
		spoil(whole)
		if !bytes.Equal(two[:cap(two)], room) {
			t.Errorf("%+v shows in its bytes", p)
		}
		if three, e := p.Bytes(); e != api.OK || !bytes.Equal(three, want) {
			t.Errorf("Bytes of %+v: %x, %d", p, three, e)
		}
	}
}

// A change in a packet that is told doesn't show in the bytes, nor in another answer, and none in the bytes shows in it.
func TestParsedIsNew(t *testing.T) {
	for _, p := range rightOnes() {
		b, _ := wordsBytes(p)
		handed, whole := roomyBytes(b)
		before := bytes.Clone(whole)
		one, _ := Parse(handed)
		two, _ := Parse(handed)
		room := clone(stretched(two))
		spoil(one)
		if !bytes.Equal(whole, before) {
			t.Errorf("what was parsed of %x shows in it", b)
		}
		if !wordsEqual(two, p) || !wordsEqual(stretched(two), room) {
			t.Errorf("what was parsed of %x shows in what was parsed again", b)
		}
		spoilBytes(whole)
		if !wordsEqual(two, p) || !wordsEqual(stretched(two), room) {
			t.Errorf("%x shows in what was parsed of it", b)
		}
		if three, e := Parse(b); e != api.OK || !wordsEqual(three, p) {
			t.Errorf("Parse of %x: %+v, %d", b, three, e)
		}
	}
}

// packetOf has the fields as they are handed in, and lists made of bytes: any packet can be so.
func packetOf(kind, from, layer int, seq uint32, block, tick, echo, level, n int, rate uint64, rates, ranges, data []byte) Packet {
	p := Packet{Kind: kind, From: from, Layer: layer, Seq: seq, Block: block, Tick: tick, Echo: echo, Level: level, N: n, Rate: fix.F(rate), Data: data}
	for _, x := range rates {
		p.Rates = append(p.Rates, fix.F(x)<<56|fix.F(x))
	}
	for ; len(ranges) >= 2; ranges = ranges[2:] {
		p.Ranges = append(p.Ranges, [2]int{int(int8(ranges[0])) * 130, int(int8(ranges[1])) * 130})
	}
	return p
}

// P1: any arguments at all are answered.
func FuzzPacket(f *testing.F) {
	f.Add(0, 0, 0, uint32(0), 0, 0, 0, 0, 0, uint64(0), []byte(nil), []byte(nil), []byte(nil))
	f.Add(1, 0, 7, uint32(math.MaxUint32), 16383, 1<<40, 0, 0, 0, uint64(0), []byte(nil), []byte(nil), []byte("abc"))
	f.Add(2, 0, 0, uint32(1), 1, 1, 0, 0, 0, uint64(0), []byte{}, []byte{}, make([]byte, 64))
	f.Add(3, 63, 1, uint32(9), 0, 5, 0, 0, 0, uint64(math.MaxUint64), []byte("12345678"), []byte(nil), []byte(nil))
	f.Add(4, 2, 0, uint32(0), 0, 5, 6, 7, 16384, uint64(1), []byte(nil), []byte(nil), []byte(nil))
	f.Add(5, 2, 0, uint32(0), 0, 0, 0, 0, 0, uint64(0), []byte(nil), []byte("\x00\x01\x03\x05"), []byte(nil))
	f.Add(6, 0, 1, uint32(0), 0, 3, 0, 2, 100, uint64(0), []byte(nil), []byte(nil), []byte(nil))
	f.Add(7, 0, 0, uint32(0), 0, math.MinInt, 0, 0, math.MaxInt, uint64(0), []byte(nil), []byte(nil), []byte(nil))
	f.Add(math.MinInt, -1, -1, uint32(5), -1, -1, -1, -1, -1, uint64(5), []byte("123456789"), bytes.Repeat([]byte{1, 2}, 17), make([]byte, 65))
	f.Fuzz(func(t *testing.T, kind, from, layer int, seq uint32, block, tick, echo, level, n int, rate uint64, rates, ranges, data []byte) {
		p := packetOf(kind, from, layer, seq, block, tick, echo, level, n, rate, rates, ranges, data)
		handed, whole := roomy(p)
		before := clone(whole)
		checkPacket(t, handed)
		// All but what the Kind uses taken out, it is more often right.
		q := clone(p)
		for _, name := range idle(kind) {
			at(&q, name).SetZero()
		}
		checkPacket(t, q)
		if got, want := p.Equal(q), wordsEqual(p, q); got != want {
			t.Errorf("Equal of %+v and %+v: %t", p, q, got)
		}
		if kind >= 1 && kind <= 7 {
			checkParse(t, crc.Seal(wordsBody(p)))
		}
		if !reflect.DeepEqual(whole, before) {
			t.Errorf("%+v, handed in, is %+v", before, whole)
		}
	})
}

func FuzzParse(f *testing.F) {
	f.Add([]byte(nil))
	f.Add([]byte{0, 0, 0, 0})
	f.Add(make([]byte, 321))
	for _, p := range rightOnes() {
		b, _ := wordsBytes(p)
		f.Add(b)
		f.Add(wordsBody(p))
	}
	f.Fuzz(func(t *testing.T, b []byte) {
		handed, whole := roomyBytes(b)
		before := bytes.Clone(whole)
		checkParse(t, handed)
		checkParse(t, crc.Seal(handed))
		for kind := range 9 {
			checkParse(t, crc.Seal(append([]byte{byte(kind)}, handed...)))
		}
		if !bytes.Equal(whole, before) {
			t.Errorf("%x, handed in, is %x", before, whole)
		}
	})
}
