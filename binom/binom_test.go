package binom_test

import (
	"math"
	"math/big"
	"math/bits"
	"testing"

	"haystack/binom"
)

const all = math.MaxUint64

// most is the greatest n, written out as the document does.
const most = 62

// few is how many bits words have at most where all of them are gone through.
const few = 12

// refused are numbers of things, or of bits, that there are not.
var refused = []int{-1, -2, -62, -63, -64, math.MinInt32, math.MinInt + 1, math.MinInt, 63, 64, 65, 100, 126, 128, 1 << 20, math.MaxInt32, math.MaxInt - 1, math.MaxInt}

// beyond answers numbers that are no class of n bits.
func beyond(n int) []int {
	return []int{-1, -2, -64, math.MinInt32, math.MinInt + 1, math.MinInt, n + 1, n + 2, 2*n + 1, n + 63, n + 64, n + 256, math.MaxInt32, math.MaxInt - 1, math.MaxInt}
}

// products are how many ways there are to take each number of things of each number, by the library's products.
var products = func() (l [most + 1][most + 2]uint64) {
	for n := range l {
		for k := range l[n] {
			l[n][k] = new(big.Int).Binomial(int64(n), int64(k)).Uint64()
		}
	}
	return l
}()

// ways answers how many ways there are to take k of n things.
func ways(n, k int) uint64 { return products[n][k] }

// low answers the lowest n bits of x.
func low(x uint64, n int) uint64 { return x % (1 << n) }

// counted answers the class and the offset of x by going through all words that are less.
func counted(x uint64) (int, uint64) {
	less := uint64(0)
	for y := range x {
		if bits.OnesCount64(y) == bits.OnesCount64(x) {
			less++
		}
	}
	return bits.OnesCount64(x), less
}

// summed answers the class and the offset of x, of any length: each 1 with i such below it, at place p, has as many
// words behind as there are ways to take i + 1 of p things.
func summed(x uint64) (int, uint64) {
	class, less := 0, uint64(0)
	for ; x != 0; x &= x - 1 {
		class++
		less += ways(bits.TrailingZeros64(x), class)
	}
	return class, less
}

// next answers the least number above x with as many bits that are 1; x has one.
func next(x uint64) uint64 {
	lowest := x & -x
	up := x + lowest
	return up | (x^up)/lowest>>2
}

// mixed answers n words of a fixed row that has all kinds of bits.
func mixed(n int) []uint64 {
	l := make([]uint64, n)
	x := uint64(88172645463325252)
	for i := range l {
		x ^= x << 13
		x ^= x >> 7
		x ^= x << 17
		l[i] = x
	}
	return l
}

// words answers many words of n bits: with few 1s and with many, with runs at either end, and mixed ones.
func words(n int) []uint64 {
	l := []uint64{0, low(all, n), low(0x5555555555555555, n), low(0xaaaaaaaaaaaaaaaa, n)}
	for i := range n {
		one := uint64(1) << i
		l = append(l, one, low(^one, n), one-1, low(^(one-1), n), one|1, low(^(one|1), n))
		for j := range i {
			l = append(l, one|1<<j, low(^(one|1<<j), n), one-1<<j)
		}
	}
	m := mixed(1500)
	for i := range 500 {
		l = append(l, low(m[i], n), low(m[i]&m[i+500]&m[i+1000], n), low(m[i]|m[i+500]|m[i+1000], n))
	}
	return l
}

// wantOffset tells if Offset of the lowest n bits of x is not class and off.
func wantOffset(t *testing.T, x uint64, n int, class int, off uint64) {
	t.Helper()
	if k, o := binom.Offset(x, n); k != class || o != off {
		t.Fatalf("Offset of %b with %d: %d, %d, want %d, %d", x, n, k, o, class, off)
	}
}

// wantBlock tells if Block of n, k and off is not x and true.
func wantBlock(t *testing.T, n, k int, off uint64, x uint64) {
	t.Helper()
	if y, ok := binom.Block(n, k, off); !ok || y != x {
		t.Fatalf("Block of %d, %d, %d: %b, %v, want %b, true", n, k, off, y, ok, x)
	}
}

// wantNone tells if there is a Block of n, k and off.
func wantNone(t *testing.T, n, k int, off uint64) {
	t.Helper()
	if y, ok := binom.Block(n, k, off); ok || y != 0 {
		t.Fatalf("Block of %d, %d, %d: %b, %v, want 0, false", n, k, off, y, ok)
	}
}

// The references hold against one another, and against what was counted by hand.
func TestReferences(t *testing.T) {
	order := []uint64{0b00011, 0b00101, 0b00110, 0b01001, 0b01010, 0b01100, 0b10001, 0b10010, 0b10100, 0b11000}
	for i, x := range order {
		k, off := counted(x)
		if l, o := summed(x); k != 2 || off != uint64(i) || l != 2 || o != uint64(i) {
			t.Errorf("%05b: counted %d, %d, summed %d, %d, want 2, %d", x, k, off, l, o, i)
		}
		if i > 0 && next(order[i-1]) != x {
			t.Errorf("behind %05b: %05b, want %05b", order[i-1], next(order[i-1]), x)
		}
	}
	for x := range uint64(1 << few) {
		k, off := counted(x)
		if l, o := summed(x); k != l || off != o {
			t.Errorf("%b: counted %d, %d, summed %d, %d", x, k, off, l, o)
		}
	}
	if ways(62, 31) != 465428353255261088 || ways(5, 2) != 10 || ways(0, 0) != 1 {
		t.Error(ways(62, 31), ways(5, 2), ways(0, 0))
	}
}

// The chapter's examples.
func TestExamples(t *testing.T) {
	if got := binom.Choose(5, 2); got != 10 {
		t.Errorf("Choose(5, 2): %d, want 10", got)
	}
	wantOffset(t, 0b110, 3, 2, 2)
	wantBlock(t, 3, 2, 2, 0b110)
}

// P6.1: every Choose, against the triangle: each is the sum of the two above it, at the edges stands 1.
func TestChooseTriangle(t *testing.T) {
	above := []uint64{}
	for n := range most + 1 {
		line := make([]uint64, n+1)
		for k := range line {
			line[k] = 1
			if k > 0 && k < n {
				line[k] = above[k-1] + above[k]
			}
			if got := binom.Choose(n, k); got != line[k] || got != ways(n, k) {
				t.Errorf("Choose(%d, %d): %d, want %d", n, k, got, line[k])
			}
		}
		above = line
	}
}

// P6.1: the ways to take any number of n things are all words of n bits.
func TestChooseAddsUp(t *testing.T) {
	for n := range most + 1 {
		sum := uint64(0)
		for k := range n + 1 {
			sum += binom.Choose(n, k)
		}
		if sum != 1<<n {
			t.Errorf("all of Choose(%d, ..): %d, want %d", n, sum, uint64(1)<<n)
		}
	}
}

// P6.1: numbers that are known, at the edges of n and k.
func TestChooseKnown(t *testing.T) {
	for _, c := range []struct {
		n, k int
		want uint64
	}{
		{0, 0, 1}, {0, 1, 0}, {0, -1, 0}, {1, 0, 1}, {1, 1, 1}, {1, 2, 0}, {1, -1, 0},
		{2, 1, 2}, {4, 2, 6}, {6, 3, 20}, {10, 5, 252}, {15, 7, 6435}, {15, 8, 6435}, {52, 5, 2598960},
		{61, 0, 1}, {61, 1, 61}, {61, 30, 232714176627630544}, {61, 60, 61}, {61, 61, 1}, {61, 62, 0},
		{62, 0, 1}, {62, 1, 62}, {62, 2, 1891}, {62, 31, 465428353255261088}, {62, 61, 62}, {62, 62, 1}, {62, 63, 0}, {62, -1, 0},
		{63, 0, 0}, {63, 1, 0}, {63, 31, 0}, {63, 63, 0}, {64, 0, 0}, {64, 32, 0}, {64, 64, 0}, {-1, 0, 0}, {-1, -1, 0}, {-5, -3, 0},
	} {
		if got := binom.Choose(c.n, c.k); got != c.want {
			t.Errorf("Choose(%d, %d): %d, want %d", c.n, c.k, got, c.want)
		}
	}
}

// P6.1: 0 ways, and 0 bits, of numbers that may not be.
func TestChooseRefused(t *testing.T) {
	none := func(n, k int) {
		if got, w := binom.Choose(n, k), binom.Width(n, k); got != 0 || w != 0 {
			t.Errorf("Choose(%d, %d): %d, Width: %d, want 0, 0", n, k, got, w)
		}
	}
	for _, n := range refused {
		for k := range 70 {
			none(n, k)
		}
		for _, k := range []int{-1, n - 1, n, n + 1, n / 2, math.MinInt, math.MaxInt} {
			none(n, k)
		}
	}
	for n := range most + 1 {
		for _, k := range beyond(n) {
			none(n, k)
		}
	}
}

// P6.1: Width, by halving the greatest offset until nothing is left; enough for it, and no more.
func TestWidth(t *testing.T) {
	for n := range most + 1 {
		for k := range n + 1 {
			want := 0
			for greatest := ways(n, k) - 1; greatest > 0; greatest /= 2 {
				want++
			}
			if got := binom.Width(n, k); got != want {
				t.Errorf("Width(%d, %d): %d, want %d", n, k, got, want)
			}
		}
	}
}

// P6.1: Width where Choose is 0, 1, 2, a power of 2, one less and one more.
func TestWidthKnown(t *testing.T) {
	for _, c := range []struct {
		n, k   int
		choose uint64
		want   int
	}{
		{0, 1, 0, 0}, {3, -1, 0, 0}, {63, 1, 0, 0}, {-1, 0, 0, 0},
		{0, 0, 1, 0}, {1, 0, 1, 0}, {1, 1, 1, 0}, {62, 0, 1, 0}, {62, 62, 1, 0},
		{2, 1, 2, 1}, {3, 1, 3, 2}, {3, 2, 3, 2}, {4, 1, 4, 2}, {4, 3, 4, 2}, {5, 1, 5, 3}, {5, 4, 5, 3},
		{7, 1, 7, 3}, {8, 1, 8, 3}, {8, 7, 8, 3}, {9, 1, 9, 4}, {15, 1, 15, 4}, {15, 14, 15, 4}, {16, 1, 16, 4}, {17, 1, 17, 5},
		{31, 1, 31, 5}, {32, 1, 32, 5}, {32, 31, 32, 5}, {33, 1, 33, 6}, {15, 7, 6435, 13}, {15, 8, 6435, 13},
		{61, 30, 232714176627630544, 58}, {62, 31, 465428353255261088, 59},
	} {
		if got, w := binom.Choose(c.n, c.k), binom.Width(c.n, c.k); got != c.choose || w != c.want {
			t.Errorf("Choose(%d, %d): %d, Width: %d, want %d, %d", c.n, c.k, got, w, c.choose, c.want)
		}
	}
}

// P6.2 and P6.3, of every word of few bits: Offset is as counted, Block answers the word again.
func TestFewBits(t *testing.T) {
	for n := range few + 1 {
		for x := range uint64(1 << n) {
			k, off := counted(x)
			wantOffset(t, x, n, k, off)
			wantBlock(t, n, k, off, x)
		}
	}
}

// P6.2 and P6.3, of many words of each length, the greatest too.
func TestManyBits(t *testing.T) {
	for n := range most + 1 {
		for _, x := range words(n) {
			k, off := summed(x)
			wantOffset(t, x, n, k, off)
			wantBlock(t, n, k, off, x)
		}
	}
}

// P6.2: bits above the lowest n do not count.
func TestOffsetBitsAbove(t *testing.T) {
	for n := range most + 1 {
		for i, x := range words(n) {
			k, off := summed(x)
			wantOffset(t, x|all<<n, n, k, off)
			wantOffset(t, x|1<<n, n, k, off)
			wantOffset(t, x|1<<63, n, k, off)
			wantOffset(t, x|uint64(i)*0x9e3779b97f4a7c15<<n, n, k, off)
		}
	}
}

// P6.2: no bit and all bits are alone in their classes; a single 1 is behind as many as stand below it.
func TestOffsetKnown(t *testing.T) {
	for n := range most + 1 {
		wantOffset(t, 0, n, 0, 0)
		wantOffset(t, all<<n, n, 0, 0)
		wantOffset(t, low(all, n), n, n, 0)
		wantOffset(t, all, n, n, 0)
		for i := range n {
			wantOffset(t, 1<<i, n, 1, uint64(i))
			wantOffset(t, ^uint64(1<<i), n, n-1, uint64(n-1-i))
		}
	}
}

// P6.2: 0, 0 of lengths that there are not.
func TestOffsetRefused(t *testing.T) {
	for _, n := range refused {
		for _, x := range append(mixed(20), 0, 1, 2, 3, 0b110, 1<<61, 1<<62, 1<<63, all, all>>1, all>>2) {
			wantOffset(t, x, n, 0, 0)
		}
	}
}

// P6.2: the first and the last word of each class, and none behind it.
func TestBlockEdges(t *testing.T) {
	for n := range most + 1 {
		for k := range n + 1 {
			c := ways(n, k)
			wantBlock(t, n, k, 0, low(all, k))
			wantBlock(t, n, k, c-1, low(all, k)<<(n-k))
			for _, off := range []uint64{c, c + 1, 2 * c, c + 1<<32, 1 << 59, 1 << 62, 1<<63 - 1, 1 << 63, 1<<63 + c - 1, all - 1, all} {
				wantNone(t, n, k, off)
			}
		}
	}
}

// P6.2: 0, false of lengths and of classes that there are not.
func TestBlockRefused(t *testing.T) {
	offs := []uint64{0, 1, 2, 61, 62, 63, 1 << 58, 1 << 63, all - 1, all}
	for _, n := range refused {
		for _, off := range offs {
			for k := range 70 {
				wantNone(t, n, k, off)
			}
			for _, k := range []int{-1, n - 1, n, n + 1, math.MinInt, math.MaxInt} {
				wantNone(t, n, k, off)
			}
		}
	}
	for n := range most + 1 {
		for _, k := range beyond(n) {
			for _, off := range offs {
				wantNone(t, n, k, off)
			}
		}
	}
}

// P6.3: Offset of Block is the class and the offset, and the block has no bit above its n.
func TestOffsetOfBlock(t *testing.T) {
	for n := range most + 1 {
		for k := range n + 1 {
			c := ways(n, k)
			offs := []uint64{0, c / 2, c / 3, c - 1, (c - 1) / 2}
			for _, x := range mixed(20) {
				offs = append(offs, x%c)
			}
			for _, off := range offs {
				x, ok := binom.Block(n, k, off)
				if !ok || x != low(x, n) || bits.OnesCount64(x) != k {
					t.Fatalf("Block of %d, %d, %d: %b, %v", n, k, off, x, ok)
				}
				wantOffset(t, x, n, k, off)
			}
		}
	}
}

// P6.3: the words of each class in their order have the offsets from 0 on, and these are all.
func TestOrderFewBits(t *testing.T) {
	for n := range few + 1 {
		seen := make([]uint64, n+1)
		for x := range uint64(1 << n) {
			k := bits.OnesCount64(x)
			wantOffset(t, x, n, k, seen[k])
			wantBlock(t, n, k, seen[k], x)
			seen[k]++
		}
		for k, c := range seen {
			if got := binom.Choose(n, k); got != c {
				t.Errorf("%d words of %d bits and class %d, Choose: %d", c, n, k, got)
			}
			wantNone(t, n, k, c)
		}
	}
}

// P6.3: the next word of its class has the next offset, among long words too.
func TestOrderManyBits(t *testing.T) {
	for _, n := range []int{15, 16, 31, 32, 33, 60, 61, 62} {
		for _, x := range words(n) {
			k, off := summed(x)
			for range 5 {
				if x == 0 || next(x) != low(next(x), n) { // it is the last one
					wantNone(t, n, k, off+1)
					break
				}
				x, off = next(x), off+1
				wantOffset(t, x, n, k, off)
				wantBlock(t, n, k, off, x)
			}
		}
	}
}

// The same call on the same arguments answers the same, whatever was asked between.
func TestNothingKept(t *testing.T) {
	for range 3 {
		wantOffset(t, 0b10110, 5, 3, 6)
		wantBlock(t, 62, 31, 0, 1<<31-1)
		wantBlock(t, 5, 3, 6, 0b10110)
		if c, w := binom.Choose(62, 31), binom.Width(15, 7); c != 465428353255261088 || w != 13 {
			t.Error(c, w)
		}
		wantNone(t, 63, 31, 0)
	}
}
