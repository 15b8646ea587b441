package word_test

import (
	"math"
	"testing"

	"haystack/word"
)

const ones = math.MaxUint64

// samples are words of every kind: the edges, each bit alone and each bit left out, low and high runs, and mixed ones.
func samples() []uint64 {
	l := []uint64{0, 1, 0b10110, ones, ones - 1, 1 << 63, 1<<63 | 1, 0x5555555555555555, 0xAAAAAAAAAAAAAAAA, 0x00000000FFFFFFFF, 0xFFFFFFFF00000000}
	for i := range 64 {
		l = append(l, 1<<i, ^uint64(1<<i), 1<<i-1, ^uint64(1<<i-1))
	}
	x := uint64(88172645463325252)
	for range 200 { // a fixed row of mixed words, then sparse and dense ones made of neighbours
		y := x
		x ^= x << 13
		x ^= x >> 7
		x ^= x << 17
		l = append(l, x, x&y, x|y)
	}
	return l
}

// bit tells whether the bit of x at a place is 1.
func bit(x uint64, place int) bool {
	return x/(1<<place)%2 == 1
}

// counted answers how many bits of x below a place are 1, one by one.
func counted(x uint64, place int) int {
	n := 0
	for i := range 64 {
		if i < place && bit(x, i) {
			n++
		}
	}
	return n
}

// numbers are counts and places on both sides of each edge, and far from all of them.
func numbers() []int {
	l := []int{math.MinInt, math.MinInt + 1, -1 << 32, -65, -64, -63, -2, 1 << 32, 1<<32 + 3, math.MaxInt - 1, math.MaxInt}
	for n := range 132 {
		l = append(l, n-1)
	}
	return l
}

// P1.1 Mask.
func TestMask(t *testing.T) {
	for _, c := range []struct {
		n    int
		want uint64
	}{
		{math.MinInt, 0}, {-64, 0}, {-1, 0}, {0, 0}, {1, 1}, {2, 3}, {3, 7}, {31, 1<<31 - 1}, {32, 1<<32 - 1},
		{33, 1<<33 - 1}, {62, ones >> 2}, {63, ones >> 1}, {64, ones}, {65, ones}, {128, ones}, {1 << 32, ones}, {math.MaxInt, ones},
	} {
		if got := word.Mask(c.n); got != c.want {
			t.Errorf("Mask(%d) = %#x, want %#x", c.n, got, c.want)
		}
	}
	for _, n := range numbers() {
		m := word.Mask(n)
		for i := range 64 {
			if bit(m, i) != (i < n) {
				t.Errorf("Mask(%d) = %#x: bit %d is wrong", n, m, i)
			}
		}
	}
}

// P1.1 Pop.
func TestPop(t *testing.T) {
	for _, c := range []struct {
		x    uint64
		want int
	}{{0, 0}, {1, 1}, {7, 3}, {0b10110, 3}, {1 << 63, 1}, {1<<63 | 1, 2}, {ones, 64}, {ones >> 1, 63}} {
		if got := word.Pop(c.x); got != c.want {
			t.Errorf("Pop(%#x) = %d, want %d", c.x, got, c.want)
		}
	}
	for _, x := range samples() {
		if got, want := word.Pop(x), counted(x, 64); got != want {
			t.Errorf("Pop(%#x) = %d, want %d", x, got, want)
		}
	}
}

// P1.1 Rank.
func TestRank(t *testing.T) {
	for _, c := range []struct {
		x    uint64
		n    int
		want int
	}{
		{0b10110, 0, 0}, {0b10110, 1, 0}, {0b10110, 2, 1}, {0b10110, 3, 2}, {0b10110, 4, 2}, {0b10110, 5, 3}, {0b10110, 64, 3},
		{ones, math.MinInt, 0}, {ones, -1, 0}, {ones, 0, 0}, {ones, 1, 1}, {ones, 63, 63}, {ones, 64, 64}, {ones, 65, 64}, {ones, math.MaxInt, 64},
		{1 << 63, 63, 0}, {1 << 63, 64, 1}, {1 << 63, 65, 1}, {0, -1, 0}, {0, 64, 0}, {0, 65, 0},
	} {
		if got := word.Rank(c.x, c.n); got != c.want {
			t.Errorf("Rank(%#x, %d) = %d, want %d", c.x, c.n, got, c.want)
		}
	}
	for _, x := range samples() {
		for _, n := range numbers() {
			if got, want := word.Rank(x, n), counted(x, n); got != want {
				t.Fatalf("Rank(%#x, %d) = %d, want %d", x, n, got, want)
			}
		}
	}
}

// P1.1 Select, with the chapter's example.
func TestSelect(t *testing.T) {
	for _, c := range []struct {
		x    uint64
		k    int
		want int
	}{
		{0b10110, 0, 1}, {0b10110, 1, 2}, {0b10110, 2, 4}, {0b10110, 3, 64}, {0b10110, -1, 64},
		{0, 0, 64}, {0, -1, 64}, {0, math.MinInt, 64}, {0, math.MaxInt, 64},
		{1, 0, 0}, {1, 1, 64}, {1 << 63, 0, 63}, {1 << 63, 1, 64},
		{ones, 0, 0}, {ones, 63, 63}, {ones, 64, 64}, {ones, 65, 64}, {ones, -1, 64},
		{ones, math.MinInt, 64}, {ones, math.MinInt + 1, 64}, {ones, math.MaxInt, 64}, {ones, 1 << 32, 64}, {ones, -1 << 32, 64},
	} {
		if got := word.Select(c.x, c.k); got != c.want {
			t.Errorf("Select(%#x, %d) = %d, want %d", c.x, c.k, got, c.want)
		}
	}
	for _, x := range samples() {
		k := 0
		for i := range 64 {
			if !bit(x, i) {
				continue
			}
			if got := word.Select(x, k); got != i {
				t.Fatalf("Select(%#x, %d) = %d, want %d", x, k, got, i)
			}
			k++
		}
		for _, none := range numbers() {
			if none >= 0 && none < k {
				continue
			}
			if got := word.Select(x, none); got != 64 {
				t.Fatalf("Select(%#x, %d) = %d, want 64", x, none, got)
			}
		}
	}
}

// P1.1 Len.
func TestLen(t *testing.T) {
	for _, c := range []struct {
		x    uint64
		want int
	}{{0, 0}, {1, 1}, {2, 2}, {3, 2}, {7, 3}, {8, 4}, {0b10110, 5}, {1 << 31, 32}, {1 << 32, 33}, {ones >> 1, 63}, {1 << 63, 64}, {ones, 64}} {
		if got := word.Len(c.x); got != c.want {
			t.Errorf("Len(%#x) = %d, want %d", c.x, got, c.want)
		}
	}
	for _, x := range samples() {
		want := 0
		for i := range 64 {
			if bit(x, i) {
				want = i + 1
			}
		}
		if got := word.Len(x); got != want {
			t.Errorf("Len(%#x) = %d, want %d", x, got, want)
		}
	}
}

// P1.2: below the place that Select answers there are k, and the bit there is 1.
func TestSelectThenRank(t *testing.T) {
	for _, x := range samples() {
		for k := range word.Pop(x) {
			place := word.Select(x, k)
			if place < 0 || place > 63 || !bit(x, place) {
				t.Fatalf("Select(%#x, %d) = %d: no bit that is 1", x, k, place)
			}
			if got := word.Rank(x, place); got != k {
				t.Errorf("Rank(%#x, Select(%d) = %d) = %d", x, k, place, got)
			}
			if got := word.Rank(x, place+1); got != k+1 {
				t.Errorf("Rank(%#x, Select(%d) + 1 = %d) = %d", x, k, place+1, got)
			}
		}
	}
}

// P1.2: from each bit that is 1, Rank and Select lead back to it.
func TestRankThenSelect(t *testing.T) {
	for _, x := range samples() {
		for place := range 64 {
			if !bit(x, place) {
				continue
			}
			if got := word.Select(x, word.Rank(x, place)); got != place {
				t.Errorf("Select(%#x, Rank(%d)) = %d", x, place, got)
			}
		}
	}
}

// P1.2: the last place that Select answers is that of the highest bit, and behind it there is none.
func TestSelectAndLen(t *testing.T) {
	for _, x := range samples() {
		n := word.Pop(x)
		if n > 0 && word.Select(x, n-1)+1 != word.Len(x) {
			t.Errorf("Select(%#x, %d) = %d, but Len is %d", x, n-1, word.Select(x, n-1), word.Len(x))
		}
		if got := word.Select(x, n); got != 64 {
			t.Errorf("Select(%#x, %d) = %d, want 64", x, n, got)
		}
	}
}
