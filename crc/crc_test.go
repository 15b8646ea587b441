package crc_test

import (
	"bytes"
	"hash/crc32"
	"math/bits"
	"testing"

	"haystack/crc"
)

// known are sums that are told elsewhere, of texts that need no program to be made.
var known = []struct {
	text string
	sum  uint32
}{
	{"", 0},
	{"\x00", 0xd202ef8d},
	{"\xff", 0xff000000},
	{"a", 0xe8b7be43},
	{"abc", 0x352441c2},
	{"123456789", 0xcbf43926},
	{"\x00\x00\x00\x00", 0x2144df1c},
	{"\xff\xff\xff\xff", 0xffffffff},
	{"The quick brown fox jumps over the lazy dog", 0x414fa339},
	{"The quick brown fox jumps over the lazy dog.", 0x519025e9},
	{string(make([]byte, 32)), 0x190a55ad},
	{string(filled(32, 255)), 0xff6cab0b},
}

// filled answers n bytes that are all x.
func filled(n int, x byte) []byte { return bytes.Repeat([]byte{x}, n) }

// mixed answers n bytes of a fixed text in which every byte comes.
func mixed(n int) []byte {
	l := make([]byte, n)
	x := uint64(88172645463325252)
	for i := range l {
		x ^= x << 13
		x ^= x >> 7
		x ^= x << 17
		l[i] = byte(x >> 40)
	}
	return l
}

// divided answers the sum of b as the standard tells it, with no polynomial turned: the bits of b, of each byte
// the lowest first, with 32 noughts behind them, are a line whose first 32 bits are changed; the line is divided
// by the polynomial 104c11db7; what is left is turned round, and each bit of it changed.
func divided(b []byte) uint32 {
	line := make([]uint64, 0, 8*len(b)+32)
	for _, x := range b {
		for i := range 8 {
			line = append(line, uint64(x>>i&1))
		}
	}
	line = append(line, make([]uint64, 32)...)
	for i := range 32 {
		line[i] ^= 1
	}
	left := uint64(0)
	for _, x := range line {
		left = left<<1 | x
		if left>>32 == 1 {
			left ^= 0x104c11db7
		}
	}
	return ^bits.Reverse32(uint32(left))
}

// texts answers the texts that most tests go through.
func texts() [][]byte {
	l := [][]byte{nil, {}, []byte("haystack"), []byte("123456789")}
	for x := range 256 {
		l = append(l, []byte{byte(x)})
	}
	for _, n := range []int{2, 3, 4, 5, 7, 8, 9, 31, 32, 33, 63, 64, 65, 255, 256, 257, 1000, 8192, 20000, 70001} {
		l = append(l, filled(n, 0), filled(n, 255), mixed(n))
	}
	return l
}

// wantSum tells if Sum of b, or More of the Sum of no byte, is not what the standard tells.
func wantSum(t *testing.T, b []byte, want uint32) {
	t.Helper()
	if got := crc.Sum(b); got != want {
		t.Errorf("Sum of %d bytes %.20x: %08x, want %08x", len(b), b, got, want)
	}
	if got := crc.More(0, b); got != want {
		t.Errorf("More of 0 and %d bytes %.20x: %08x, want %08x", len(b), b, got, want)
	}
}

func TestReference(t *testing.T) {
	for _, k := range known {
		if got := divided([]byte(k.text)); got != k.sum {
			t.Errorf("the reference of %.20q: %08x, want %08x", k.text, got, k.sum)
		}
	}
	for _, b := range texts() {
		if got, want := divided(b), crc32.ChecksumIEEE(b); got != want {
			t.Errorf("the reference of %d bytes %.20x: %08x, the library's %08x", len(b), b, got, want)
		}
	}
}

// P5.1, and the chapter's example.
func TestSumKnown(t *testing.T) {
	for _, k := range known {
		wantSum(t, []byte(k.text), k.sum)
	}
	wantSum(t, nil, 0)
}

// P5.1: no byte, each byte alone, all noughts, all ones, long texts.
func TestSum(t *testing.T) {
	for _, b := range texts() {
		wantSum(t, b, divided(b))
	}
}

// P5.1: what was summed counts by its Sum alone, whatever it is.
func TestMore(t *testing.T) {
	heads := [][]byte{nil, {0}, {255}, []byte("a"), filled(4, 255), filled(100, 0), mixed(64), mixed(20000)}
	tails := [][]byte{nil, {}, {0}, {255}, []byte("b"), []byte("56789"), filled(33, 0), filled(33, 255), mixed(20001)}
	for _, h := range heads {
		for _, b := range tails {
			want := divided(append(bytes.Clone(h), b...))
			if got := crc.More(divided(h), b); got != want {
				t.Errorf("More of %d bytes' sum and %d bytes: %08x, want %08x", len(h), len(b), got, want)
			}
		}
	}
}

// P5.1: with no byte behind, the sum stays; every number is the Sum of some bytes.
func TestMoreOfAnySum(t *testing.T) {
	for i := range 32 {
		for _, sum := range []uint32{1 << i, ^uint32(1 << i), 1<<i - 1, 0x9e3779b9 << i} {
			if crc.More(sum, nil) != sum || crc.More(sum, []byte{}) != sum {
				t.Errorf("More of %08x and no byte: %08x and %08x", sum, crc.More(sum, nil), crc.More(sum, []byte{}))
			}
			if got, want := crc.More(sum, []byte("hay")), crc32.Update(sum, crc32.IEEETable, []byte("hay")); got != want {
				t.Errorf("More of %08x and hay: %08x, want %08x", sum, got, want)
			}
		}
	}
}

// P5.2: pieces add up, wherever a text is cut.
func TestPiecesAddUp(t *testing.T) {
	for _, b := range [][]byte{nil, {7}, []byte("123456789"), filled(40, 0), filled(40, 255), mixed(80)} {
		whole := divided(b)
		for i := range len(b) + 1 {
			if got := crc.More(crc.Sum(b[:i]), b[i:]); got != whole {
				t.Fatalf("%x cut at %d: %08x, want %08x", b, i, got, whole)
			}
			for j := i; j <= len(b); j++ {
				if got := crc.More(crc.More(crc.Sum(b[:i]), b[i:j]), b[j:]); got != whole {
					t.Fatalf("%x cut at %d and %d: %08x, want %08x", b, i, j, got, whole)
				}
			}
		}
	}
}

// P5.2: a long text adds up byte by byte, and in pieces of any length.
func TestManyPiecesAddUp(t *testing.T) {
	b := mixed(20011)
	want := divided(b)
	for _, step := range []int{1, 2, 63, 64, 1000, 20010, 20011} {
		sum := crc.Sum(nil)
		for i := 0; i < len(b); i += step {
			sum = crc.More(sum, b[i:min(i+step, len(b))])
		}
		if sum != want {
			t.Errorf("pieces of %d bytes: %08x, want %08x", step, sum, want)
		}
	}
}

// P5.2: one byte that is another changes the sum, at every place and for every other byte; so does each bit.
func TestOneByteChanges(t *testing.T) {
	for _, b := range [][]byte{{0}, {255}, []byte("123456789"), filled(20, 0), filled(20, 255), mixed(50)} {
		want := crc.Sum(b)
		for i := range b {
			other := bytes.Clone(b)
			for x := 1; x < 256; x++ { // the powers of 2 among them change a single bit
				other[i] = b[i] ^ byte(x)
				if got := crc.Sum(other); got == want || got != divided(other) {
					t.Fatalf("%x with %02x at %d: %08x, of the text itself %08x", b, other[i], i, got, want)
				}
			}
		}
	}
}

// P5.2, in a long text: at its first place, its last and between.
func TestOneByteChangesLong(t *testing.T) {
	b := mixed(20000)
	want := crc.Sum(b)
	for _, i := range []int{0, 1, 63, 64, 9999, 19998, 19999} {
		for x := 1; x < 256; x++ {
			other := bytes.Clone(b)
			other[i] ^= byte(x)
			if got := crc.Sum(other); got == want || got != crc32.ChecksumIEEE(other) {
				t.Fatalf("%02x at %d: %08x, of the text itself %08x", other[i], i, got, want)
			}
		}
	}
}

// What is handed in is not changed, and what stands behind a list's end does not count.
func TestHandedIn(t *testing.T) {
	room := mixed(300)
	kept := bytes.Clone(room)
	for n := range 200 {
		want := divided(kept[:n])
		if got := crc.Sum(room[:n]); got != want {
			t.Errorf("Sum of %d bytes with room behind: %08x, want %08x", n, got, want)
		}
		if got := crc.More(crc.Sum(room[:n/2]), room[n/2:n]); got != want {
			t.Errorf("More of %d bytes with room behind: %08x, want %08x", n, got, want)
		}
		if !bytes.Equal(room, kept) {
			t.Fatalf("Sum or More of %d bytes changed what was handed in", n)
		}
	}
}
