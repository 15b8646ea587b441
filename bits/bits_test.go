package bits_test

import (
	"math"
	"slices"
	"testing"

	"haystack/api"
	"haystack/bits"
)

const (
	all  = math.MaxUint64
	most = 1 << 20 // MaxBits, written out as the document does
)

// mixed answers n bits of a fixed row that has runs and changes.
func mixed(n int) []bool {
	l := make([]bool, n)
	x := uint64(88172645463325252)
	for i := range l {
		x ^= x << 13
		x ^= x >> 7
		x ^= x << 17
		l[i] = x>>40&1 == 1
	}
	return l
}

// repeated answers n times the bit x.
func repeated(x bool, n int) []bool {
	return slices.Repeat([]bool{x}, n)
}

// row answers the row of the bits l, built word by word from what api says of Bits, without the package that is tested.
func row(l []bool) api.Bits {
	b := api.Bits{N: len(l)}
	for i, x := range l {
		if i%64 == 0 {
			b.W = append(b.W, 0)
		}
		if x {
			b.W[i/64] += 1 << (i % 64)
		}
	}
	return b
}

// bitsOf answers the lowest n bits of x.
func bitsOf(x uint64, n int) []bool {
	l := make([]bool, n)
	for i := range l {
		l[i] = x%2 == 1
		x /= 2
	}
	return l
}

// number answers the number whose bits are l.
func number(l []bool) uint64 {
	x := uint64(0)
	for i, bit := range l {
		if bit {
			x += 1 << i
		}
	}
	return x
}

// counted answers how many of l are true.
func counted(l []bool) int {
	n := 0
	for _, x := range l {
		if x {
			n++
		}
	}
	return n
}

func same(a, b api.Bits) bool {
	return a.N == b.N && slices.Equal(a.W, b.W)
}

func clone(b api.Bits) api.Bits {
	return api.Bits{N: b.N, W: slices.Clone(b.W)}
}

// short tells a row in few words: the rows of 2^20 bits would fill the screen.
func short(b api.Bits) api.Bits {
	return api.Bits{N: b.N, W: b.W[:min(len(b.W), 4)]}
}

func wantRow(t *testing.T, what string, got api.Bits, e api.Errno, want api.Bits, wantE api.Errno) {
	t.Helper()
	if e != wantE || !same(got, want) {
		t.Errorf("%s: got %v (%d words), %d, want %v (%d words), %d", what, short(got), len(got.W), e, short(want), len(want.W), wantE)
	}
}

// apart checks that got is words of its own: neither those of in nor room behind them.
func apart(t *testing.T, what string, got api.Bits, in ...api.Bits) {
	t.Helper()
	before := make([]api.Bits, len(in))
	for i, b := range in {
		b.W = b.W[:cap(b.W)]
		before[i] = clone(b)
	}
	words := got.W[:cap(got.W)]
	for i := range words {
		words[i] = ^words[i]
	}
	for i, b := range in {
		b.W = b.W[:cap(b.W)]
		if !same(b, before[i]) {
			t.Errorf("%s: the answer shares words with row %d", what, i)
		}
	}
	for i := range words {
		words[i] = ^words[i]
	}
}

// lengths are how many bits the rows of the tests have: at words' edges, and the most.
func lengths() []int {
	return []int{0, 1, 2, 62, 63, 64, 65, 66, 127, 128, 129, 191, 192, 193, 511, 512, 513, 1000, most - 65, most - 64, most - 63, most - 1, most}
}

// few are those of them that are short enough to be gone through bit by bit.
func few() []int {
	return lengths()[:18]
}

// far are places and counts far from every row.
func far() []int {
	return []int{math.MinInt, math.MinInt + 1, math.MinInt + 64, math.MinInt32, -most, -128, -65, -64, -63, -2, -1, 2 * most, math.MaxInt32, 1 << 32, 1<<32 + 1, math.MaxInt - 128, math.MaxInt - 64, math.MaxInt - 63, math.MaxInt - 1, math.MaxInt}
}

// wrong are rows that may not be, each in one way alone.
func wrong() []api.Bits {
	l := []api.Bits{
		{N: math.MinInt}, {N: -1}, {N: -1, W: []uint64{0}}, {N: -63}, {N: -64}, {N: -64, W: []uint64{0}}, {N: -65},
		{N: most + 1, W: make([]uint64, most/64)}, {N: most + 1, W: make([]uint64, most/64+1)}, {N: most + 64, W: make([]uint64, most/64+1)},
		{N: 1 << 32, W: []uint64{}}, {N: math.MaxInt}, {N: math.MaxInt, W: []uint64{1, 2}}, {N: math.MaxInt - 62},
		{N: 0, W: []uint64{0}}, {N: 0, W: []uint64{5}},
		{N: 1}, {N: 1, W: []uint64{1, 0}}, {N: 63}, {N: 64}, {N: 64, W: []uint64{3, 0}}, {N: 65, W: []uint64{9}}, {N: 65, W: []uint64{9, 1, 0}},
		{N: 128, W: []uint64{9}}, {N: 128, W: []uint64{9, 9, 9}}, {N: 128, W: []uint64{9, 9, 0}},
		{N: most, W: make([]uint64, most/64-1)}, {N: most, W: make([]uint64, most/64+1)}, {N: most - 63, W: make([]uint64, most/64-1)},
		{N: most - 1, W: slices.Repeat([]uint64{all}, most/64)},
	}
	for _, n := range []int{1, 2, 31, 32, 33, 62, 63} { // one bit of the last word from N on
		for _, place := range []int{n, n + 1, 63} {
			if place < 64 {
				l = append(l, api.Bits{N: n, W: []uint64{1 << place}}, api.Bits{N: 64 + n, W: []uint64{all, 1<<place | 1}})
			}
		}
	}
	return l
}

// P2.1 Check.
func TestCheck(t *testing.T) {
	for _, n := range lengths() {
		for _, b := range []api.Bits{row(repeated(false, n)), row(repeated(true, n)), row(mixed(n))} {
			if !bits.Check(b) {
				t.Errorf("Check(%v) = false", short(b))
			}
			if roomy := (api.Bits{N: b.N, W: append(slices.Clone(b.W), 7, 7, 7)[:len(b.W)]}); !bits.Check(roomy) {
				t.Errorf("Check(%v) = false: what stands behind the end of a list is nobody's", short(b))
			}
		}
	}
	if !bits.Check(api.Bits{}) || !bits.Check(api.Bits{W: []uint64{}}) {
		t.Error("a row of no bits may be, nil or empty")
	}
	for _, b := range wrong() {
		if bits.Check(b) {
			t.Errorf("Check(%v, %d words) = true", short(b), len(b.W))
		}
	}
}

// P2.1 New.
func TestNew(t *testing.T) {
	for _, n := range lengths() {
		b, e := bits.New(n)
		wantRow(t, "New", b, e, row(repeated(false, n)), api.OK)
		if !bits.Check(b) {
			t.Errorf("New(%d) may not be", n)
		}
		c, _ := bits.New(n)
		apart(t, "New", b, c)
	}
	for _, n := range append(far(), most+1, most+64) {
		b, e := bits.New(n)
		wantRow(t, "New", b, e, api.Bits{}, api.ErrArg)
	}
}

// P2.1 From.
func TestFrom(t *testing.T) {
	for _, n := range lengths() {
		for _, l := range [][]bool{repeated(false, n), repeated(true, n), mixed(n)} {
			before := slices.Clone(l)
			b, e := bits.From(l)
			wantRow(t, "From", b, e, row(l), api.OK)
			if !bits.Check(b) {
				t.Errorf("From of %d bits may not be", n)
			}
			if !slices.Equal(l, before) {
				t.Errorf("From changed its %d bits", n)
			}
		}
	}
	b, e := bits.From(nil)
	wantRow(t, "From of nil", b, e, api.Bits{}, api.OK)
	for _, n := range []int{most + 1, most + 64, 2 * most} {
		b, e := bits.From(repeated(true, n))
		wantRow(t, "From of too many", b, e, api.Bits{}, api.ErrArg)
	}
}

// P2.1: each call answers ErrArg, the row as it is, and zeros of a row that may not be, whatever else is wrong.
func TestRowsThatMayNotBe(t *testing.T) {
	good := row(mixed(70))
	for _, b := range wrong() {
		before := clone(b)
		for _, i := range append(far(), 0, 1, 2, 63, 64, 65, b.N) {
			if x, e := bits.Get(b, i); x || e != api.ErrArg {
				t.Errorf("Get(%v, %d) = %v, %d", short(b), i, x, e)
			}
			for _, x := range []bool{false, true} {
				c, e := bits.Set(b, i, x)
				wantRow(t, "Set", c, e, before, api.ErrArg)
				apart(t, "Set", c, b)
			}
			for _, n := range []int{math.MinInt, -1, 0, 1, 64, 65, math.MaxInt} {
				if x, e := bits.Slice(b, i, n); x != 0 || e != api.ErrArg {
					t.Errorf("Slice(%v, %d, %d) = %d, %d", short(b), i, n, x, e)
				}
			}
			if n := bits.Ones(b, i); n != 0 {
				t.Errorf("Ones(%v, %d) = %d", short(b), i, n)
			}
		}
		for _, n := range []int{math.MinInt, -1, 0, 1, 63, 64, 65, math.MaxInt} {
			c, e := bits.Append(b, 5, n)
			wantRow(t, "Append", c, e, before, api.ErrArg)
			apart(t, "Append", c, b)
		}
		c, e := bits.Join(b, good)
		wantRow(t, "Join to a row that may not be", c, e, before, api.ErrArg)
		apart(t, "Join", c, b, good)
		c, e = bits.Join(good, b)
		wantRow(t, "Join of a row that may not be", c, e, good, api.ErrArg)
		apart(t, "Join", c, b, good)
		c, e = bits.Join(b, b)
		wantRow(t, "Join of a row that may not be with itself", c, e, before, api.ErrArg)
		if !same(b, before) {
			t.Errorf("%v was changed to %v", short(before), short(b))
		}
	}
}

// P2.2 Get.
func TestGet(t *testing.T) {
	for _, n := range lengths() {
		l := mixed(n)
		b := row(l)
		for i := range n {
			if x, e := bits.Get(b, i); x != l[i] || e != api.OK {
				t.Fatalf("Get(%v, %d) = %v, %d, want %v", short(b), i, x, e, l[i])
			}
		}
		full := row(repeated(true, n))
		for _, i := range append(far(), n, n+1, n+63, n+64) {
			if x, e := bits.Get(full, i); x || e != api.ErrRange {
				t.Errorf("Get(%v, %d) = %v, %d", short(full), i, x, e)
			}
		}
	}
}

// P2.2 Set, and of P2.3 that no other bits are others.
func TestSet(t *testing.T) {
	for _, n := range few() {
		for _, l := range [][]bool{repeated(false, n), repeated(true, n), mixed(n)} {
			b := row(l)
			for i := range n {
				for _, x := range []bool{false, true} {
					want := slices.Clone(l)
					want[i] = x
					c, e := bits.Set(b, i, x)
					wantRow(t, "Set", c, e, row(want), api.OK)
					apart(t, "Set", c, b)
					if !same(b, row(l)) {
						t.Fatalf("Set(%v, %d, %v) changed the row", b, i, x)
					}
				}
			}
		}
	}
	for _, n := range lengths() {
		b := row(mixed(n))
		before := clone(b)
		for _, i := range append(far(), n, n+1, n+63, n+64) {
			for _, x := range []bool{false, true} {
				c, e := bits.Set(b, i, x)
				wantRow(t, "Set behind", c, e, before, api.ErrRange)
				apart(t, "Set behind", c, b)
			}
		}
		if !same(b, before) {
			t.Errorf("Set changed %v", short(before))
		}
	}
	b := row(repeated(false, most))
	for _, i := range []int{0, 63, 64, most - 64, most - 1} {
		c, e := bits.Set(b, i, true)
		want := clone(b)
		want.W[i/64] += 1 << (i % 64)
		wantRow(t, "Set of the most", c, e, want, api.OK)
	}
}

// P2.2 Slice, at every place of short rows and with every n.
func TestSlice(t *testing.T) {
	for _, n := range few() {
		for _, l := range [][]bool{repeated(true, n), mixed(n)} {
			b := row(l)
			for at := range n + 2 {
				for count := range 65 {
					x, e := bits.Slice(b, at, count)
					if at+count > n {
						if x != 0 || e != api.ErrRange {
							t.Fatalf("Slice of %d bits at %d, %d bits = %d, %d, want 0, ErrRange", n, at, count, x, e)
						}
					} else if x != number(l[at:at+count]) || e != api.OK {
						t.Fatalf("Slice of %d bits at %d, %d bits = %d, %d, want %d", n, at, count, x, e, number(l[at:at+count]))
					}
				}
			}
		}
	}
}

func TestSliceOfTheMost(t *testing.T) {
	l := mixed(most)
	b := row(l)
	for _, at := range []int{0, 1, 63, 64, most / 2, most - 129, most - 128, most - 127, most - 65, most - 64, most - 63, most - 1, most} {
		for _, n := range []int{0, 1, 2, 63, 64} {
			x, e := bits.Slice(b, at, n)
			if at+n > most {
				if x != 0 || e != api.ErrRange {
					t.Errorf("Slice at %d, %d bits = %d, %d", at, n, x, e)
				}
			} else if x != number(l[at:at+n]) || e != api.OK {
				t.Errorf("Slice at %d, %d bits = %d, %d", at, n, x, e)
			}
		}
	}
}

func TestSliceRefused(t *testing.T) {
	for _, n := range lengths() {
		b := row(repeated(true, n))
		for _, at := range append(far(), 0, 1, n, n+1) {
			for _, count := range []int{math.MinInt, math.MinInt + 1, -64, -1, 65, 66, 128, math.MaxInt} { // ErrArg is named ahead of ErrRange
				if x, e := bits.Slice(b, at, count); x != 0 || e != api.ErrArg {
					t.Errorf("Slice of %d bits at %d, %d bits = %d, %d", n, at, count, x, e)
				}
			}
		}
		for _, at := range append(far(), n+1, n+64) {
			for _, count := range []int{0, 1, 63, 64} {
				if x, e := bits.Slice(b, at, count); x != 0 || e != api.ErrRange {
					t.Errorf("Slice of %d bits at %d, %d bits = %d, %d", n, at, count, x, e)
				}
			}
		}
	}
}

// P2.2 Append, and of P2.3 that what was appended is sliced.
func TestAppend(t *testing.T) {
	for _, n := range few() {
		l := mixed(n)
		for count := range 65 {
			for _, x := range []uint64{0, 1, 1 << 63, all, 0xA5C3F00F12345678} {
				b := row(l)
				c, e := bits.Append(b, x, count)
				wantRow(t, "Append", c, e, row(slices.Concat(l, bitsOf(x, count))), api.OK)
				if !bits.Check(c) {
					t.Fatalf("Append of %d bits to %d may not be", count, n)
				}
				apart(t, "Append", c, b)
				if !same(b, row(l)) {
					t.Fatalf("Append changed %v", b)
				}
				if y, e := bits.Slice(c, n, count); y != number(bitsOf(x, count)) || e != api.OK {
					t.Fatalf("Append of %d, %d bits to %d: sliced %d, %d", x, count, n, y, e)
				}
			}
		}
	}
}

func TestAppendRefused(t *testing.T) {
	for _, n := range append(lengths(), most-2) {
		b := row(mixed(n))
		before := clone(b)
		for _, count := range []int{math.MinInt, math.MinInt + 1, -65, -64, -1, 65, 66, 128, most, math.MaxInt - 63, math.MaxInt} {
			c, e := bits.Append(b, all, count)
			wantRow(t, "Append", c, e, before, api.ErrArg)
			apart(t, "Append", c, b)
		}
		for _, count := range []int{0, 1, 2, 63, 64} {
			c, e := bits.Append(b, all, count)
			want, wantE := before, api.ErrArg
			if n+count <= most {
				want, wantE = row(slices.Concat(mixed(n), repeated(true, count))), api.OK
			}
			wantRow(t, "Append", c, e, want, wantE)
			apart(t, "Append", c, b)
		}
		if !same(b, before) {
			t.Errorf("Append changed %v", short(before))
		}
	}
}

// P2.1: what stands in the room behind a row's words is neither taken up nor written to.
func TestRoomBehindTheEnd(t *testing.T) {
	room := []uint64{1, all, all, all}
	b := api.Bits{N: 64, W: room[:1]}
	c, e := bits.Append(b, 2, 2)
	wantRow(t, "Append", c, e, api.Bits{N: 66, W: []uint64{1, 2}}, api.OK)
	c, e = bits.Join(b, b)
	wantRow(t, "Join", c, e, api.Bits{N: 128, W: []uint64{1, 1}}, api.OK)
	if !slices.Equal(room, []uint64{1, all, all, all}) {
		t.Error("the room behind the row was written to:", room)
	}
}

// P2.2 Join.
func TestJoin(t *testing.T) {
	for _, n := range few() {
		for _, m := range few() {
			for _, l := range [][2][]bool{{mixed(n), mixed(m)}, {repeated(false, n), repeated(true, m)}, {repeated(true, n), repeated(false, m)}} {
				a, b := row(l[0]), row(l[1])
				c, e := bits.Join(a, b)
				wantRow(t, "Join", c, e, row(slices.Concat(l[0], l[1])), api.OK)
				if !bits.Check(c) {
					t.Fatalf("Join of %d and %d bits may not be", n, m)
				}
				apart(t, "Join", c, a, b)
				if !same(a, row(l[0])) || !same(b, row(l[1])) {
					t.Fatalf("Join changed %v or %v", a, b)
				}
			}
		}
	}
	a := row(mixed(100))
	c, e := bits.Join(a, a)
	wantRow(t, "Join with itself", c, e, row(slices.Concat(mixed(100), mixed(100))), api.OK)
	apart(t, "Join with itself", c, a)
}

func TestJoinOfTheMost(t *testing.T) {
	for _, c := range [][2]int{{most, 0}, {0, most}, {most - 1, 1}, {1, most - 1}, {most - 64, 64}, {64, most - 64}, {most / 2, most / 2}, {most - 100, 100}, {100, most - 100}} {
		b, e := bits.Join(row(mixed(c[0])), row(mixed(c[1])))
		wantRow(t, "Join", b, e, row(slices.Concat(mixed(c[0]), mixed(c[1]))), api.OK)
	}
	for _, c := range [][2]int{{most, 1}, {1, most}, {most, most}, {most - 1, 2}, {most - 63, 64}, {most/2 + 1, most / 2}, {most / 2, most/2 + 1}} {
		a, b := row(mixed(c[0])), row(mixed(c[1]))
		got, e := bits.Join(a, b)
		wantRow(t, "Join of too many", got, e, row(mixed(c[0])), api.ErrArg)
		apart(t, "Join of too many", got, a, b)
	}
}

// P2.2 Ones.
func TestOnes(t *testing.T) {
	for _, n := range few() {
		for _, l := range [][]bool{repeated(false, n), repeated(true, n), mixed(n)} {
			b := row(l)
			for i := range n + 1 {
				if got := bits.Ones(b, i); got != counted(l[:i]) {
					t.Fatalf("Ones(%v, %d) = %d, want %d", b, i, got, counted(l[:i]))
				}
			}
		}
	}
	for _, n := range lengths() {
		l := mixed(n)
		b := row(l)
		for _, i := range append(far(), 0, 1, 63, 64, 65, n-1, n, n+1, n+64) {
			if want := counted(l[:max(0, min(i, n))]); bits.Ones(b, i) != want {
				t.Errorf("Ones of %d bits, the first %d = %d, want %d", n, i, bits.Ones(b, i), want)
			}
		}
	}
}

// P2.3: a row that is made of pieces of every length answers them again; bits that were set are got.
func TestWhatFollows(t *testing.T) {
	b := api.Bits{}
	var l []bool
	var pieces []uint64
	x := uint64(2463534242)
	for n := range 65 {
		x ^= x << 13
		x ^= x >> 7
		x ^= x << 17
		var e api.Errno
		if b, e = bits.Append(b, x, n); e != api.OK {
			t.Fatal("Append", n, e)
		}
		l = append(l, bitsOf(x, n)...)
		pieces = append(pieces, number(bitsOf(x, n)))
	}
	wantRow(t, "all pieces", b, api.OK, row(l), api.OK)
	at := 0
	for n, want := range pieces {
		if got, e := bits.Slice(b, at, n); got != want || e != api.OK {
			t.Errorf("piece %d: %d, %d, want %d", n, got, e, want)
		}
		at += n
	}
	c, _ := bits.New(len(l))
	for i := range l { // from behind, so that bits ahead and behind are both already there and still to come
		i = len(l) - 1 - i
		c, _ = bits.Set(c, i, l[i])
		if got, e := bits.Get(c, i); got != l[i] || e != api.OK {
			t.Fatalf("bit %d set to %v is %v, %d", i, l[i], got, e)
		}
	}
	wantRow(t, "all bits set", c, api.OK, b, api.OK)
}

// The chapter's example.
func TestExample(t *testing.T) {
	b, e := bits.Append(api.Bits{}, 5, 3)
	wantRow(t, "Append 5 with 3 bits", b, e, api.Bits{N: 3, W: []uint64{5}}, api.OK)
	for i, want := range []bool{true, false, true} {
		if x, e := bits.Get(b, i); x != want || e != api.OK {
			t.Errorf("bit %d is %v, %d", i, x, e)
		}
	}
	c, e := bits.From([]bool{true, false, true})
	wantRow(t, "From", c, e, b, api.OK)
}
