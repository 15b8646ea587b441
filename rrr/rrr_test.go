package rrr_test

import (
	"fmt"
	"math"
	mathbits "math/bits"
	"slices"
	"testing"

	"haystack/api"
	"haystack/rrr"
)

const (
	all  = math.MaxUint64
	most = 1 << 20 // MaxBits, written out as the document does
)

// both are the two bits that are counted and sought.
var both = []bool{false, true}

// words holds the words of 15 bits by how many of their bits are 1, rising: the offset of a word is its place there.
var words = func() [16][]uint64 {
	var l [16][]uint64
	for w := range uint64(1 << 15) {
		class := mathbits.OnesCount64(w)
		l[class] = append(l[class], w)
	}
	return l
}()

// mixed answers n bits of a fixed row that has runs and changes.
func mixed(n int) []bool {
	l := make([]bool, n)
	x := uint64(88172645463325252)
	for i := range l {
		x ^= x << 13
		x ^= x >> 7
		x ^= x << 17
		l[i] = x>>40&1 == 1
	}
	return l
}

// runs answers n bits that change only now and then: blocks and groups that are full of either bit, and groups that differ.
func runs(n int) []bool {
	l := make([]bool, n)
	for i := range l {
		l[i] = i/170%2 == 1 || i/15%5 == 2
	}
	return l
}

// thin answers n bits of which few are 1: blocks of the lowest classes, whose offsets are of few bits or none.
func thin(n int) []bool {
	l := make([]bool, n)
	for i := range l {
		l[i] = i%37 == 5 || i%101 == 3
	}
	return l
}

// each answers n bits, block b of them the one of class b modulo 16 that stands in the middle of its class: all widths, one behind the other.
func each(n int) []bool {
	l := make([]bool, n)
	for i := range l {
		class := words[i/15%16]
		l[i] = class[len(class)/2]>>(i%15)&1 == 1
	}
	return l
}

// but answers n bits, all of them unlike x but the one at a place, if there is such a place.
func but(n int, place int, x bool) []bool {
	l := slices.Repeat([]bool{!x}, n)
	if place >= 0 && place < n {
		l[place] = x
	}
	return l
}

// kinds answers rows of n bits: all 0, all 1, mixed, in runs, thin, of each class, and with one bit unlike the others, the first, the last, or one in the middle.
func kinds(n int) [][]bool {
	l := [][]bool{but(n, -1, true), but(n, -1, false), mixed(n), runs(n), thin(n), each(n)}
	for _, x := range both {
		l = append(l, but(n, 0, x), but(n, n/2, x), but(n, n-1, x))
	}
	return l
}

// lengths are how many bits the short rows have: at the edges of words, of blocks of 15 bits and of groups of 120.
func lengths() []int {
	return []int{0, 1, 2, 14, 15, 16, 29, 30, 31, 63, 64, 65, 104, 105, 106, 119, 120, 121, 239, 240, 241, 480, 1025}
}

// great are how many bits the longest rows have; the greatest multiples of 15 and of 120 are among them.
func great() []int {
	return []int{most / 120 * 120, most/120*120 + 1, most/15*15 - 1, most / 15 * 15, most - 1, most}
}

// far are places and counts far from every row.
func far() []int {
	return []int{math.MinInt, math.MinInt + 1, math.MinInt + 120, math.MinInt32, -most, -121, -120, -119, -16, -15, -14, -2, -1, most + 1, 2 * most, math.MaxInt32, 1 << 32, 1<<32 + 1, math.MaxInt - 120, math.MaxInt - 15, math.MaxInt - 14, math.MaxInt - 1, math.MaxInt}
}

// row answers the row of the bits l.
func row(l []bool) api.Bits {
	b := api.Bits{N: len(l)}
	for i, x := range l {
		if i%64 == 0 {
			b.W = append(b.W, 0)
		}
		if x {
			b.W[i/64] += 1 << (i % 64)
		}
	}
	return b
}

// lowest answers the lowest n bits of x.
func lowest(x uint64, n int) []bool {
	l := make([]bool, n)
	for i := range l {
		l[i] = x>>i&1 == 1
	}
	return l
}

// number answers the number whose lowest bits are l.
func number(l []bool) uint64 {
	x := uint64(0)
	for i := range l {
		if l[i] {
			x += 1 << i
		}
	}
	return x
}

// listed answers the bits of b.
func listed(b api.Bits) []bool {
	l := make([]bool, b.N)
	for i := range l {
		l[i] = b.W[i/64]>>(i%64)&1 == 1
	}
	return l
}

// ahead answers, for each place of l and for its end, how many of the bits ahead of it are x.
func ahead(l []bool, x bool) []int {
	counts := make([]int, len(l)+1)
	for i := range l {
		counts[i+1] = counts[i]
		if l[i] == x {
			counts[i+1]++
		}
	}
	return counts
}

// places answers the places of the bits of l that are x.
func places(l []bool, x bool) []int {
	var at []int
	for i := range l {
		if l[i] == x {
			at = append(at, i)
		}
	}
	return at
}

// width answers how many bits the greatest offset of a class has.
func width(class int) int {
	return mathbits.Len(uint(len(words[class]) - 1))
}

// joined answers the row of blocks of these classes and offsets, of n bits, by what the chapter says, without the package that is tested.
func joined(n int, classes []int, offs []int) api.Rrr {
	var class, off []bool
	var onesAt, pointsAt []int
	ones := 0
	for i := range classes {
		if i%8 == 0 {
			onesAt = append(onesAt, ones)
			pointsAt = append(pointsAt, len(off))
		}
		ones += classes[i]
		class = append(class, lowest(uint64(classes[i]), 4)...)
		off = append(off, lowest(uint64(offs[i]), width(classes[i]))...)
	}
	if len(classes) == 0 {
		onesAt, pointsAt = []int{0}, []int{0}
	}
	return api.Rrr{N: n, Class: api.Ints{N: len(classes), Width: 4, Bits: row(class)}, Off: row(off), Ones: onesAt, Points: pointsAt}
}

// cut answers the classes and the offsets of the blocks of l.
func cut(l []bool) (classes []int, offs []int) {
	for i := 0; i < len(l); i += 15 {
		w := number(l[i:min(i+15, len(l))])
		class := mathbits.OnesCount64(w)
		off, _ := slices.BinarySearch(words[class], w)
		classes = append(classes, class)
		offs = append(offs, off)
	}
	return classes, offs
}

// expected answers Build of l.
func expected(l []bool) api.Rrr {
	classes, offs := cut(l)
	return joined(len(l), classes, offs)
}

// mayRow tells whether b is a row that may be.
func mayRow(b api.Bits) bool {
	return b.N >= 0 && b.N <= most && len(b.W) == (b.N+63)/64 && sameRow(b, row(listed(b)))
}

// read answers the row whose Build x is, and whether there is one: each block is sought among the words of its class, then all is built again.
func read(x api.Rrr) ([]bool, bool) {
	if !mayRow(x.Class.Bits) || !mayRow(x.Off) || x.N < 0 || x.N > most || x.Class.N != (x.N+14)/15 || x.Class.Bits.N != 4*x.Class.N {
		return nil, false
	}
	class, off := listed(x.Class.Bits), listed(x.Off)
	var l []bool
	for range x.Class.N {
		c := int(number(class[:4]))
		class = class[4:]
		if len(off) < width(c) || number(off[:width(c)]) >= uint64(len(words[c])) {
			return nil, false
		}
		l = append(l, lowest(words[c][number(off[:width(c)])], 15)...)
		off = off[width(c):]
	}
	if slices.Contains(l[x.N:], true) || !same(x, expected(l[:x.N])) {
		return nil, false
	}
	return l[:x.N], true
}

func sameRow(a, b api.Bits) bool {
	return a.N == b.N && slices.Equal(a.W, b.W)
}

func same(a, b api.Rrr) bool {
	return a.N == b.N && a.Class.N == b.Class.N && a.Class.Width == b.Class.Width && sameRow(a.Class.Bits, b.Class.Bits) && sameRow(a.Off, b.Off) && slices.Equal(a.Ones, b.Ones) && slices.Equal(a.Points, b.Points)
}

func clone(x api.Rrr) api.Rrr {
	x.Class.Bits.W = slices.Clone(x.Class.Bits.W)
	x.Off.W = slices.Clone(x.Off.W)
	x.Ones = slices.Clone(x.Ones)
	x.Points = slices.Clone(x.Points)
	return x
}

// short tells a value in few words: the greatest ones would fill the screen.
func short(x api.Rrr) string {
	return fmt.Sprintf("{N %d, Class %d of %d in %d bits %#x.., Off %d bits %#x.., %d of Ones %v.., %d of Points %v..}", x.N,
		x.Class.N, x.Class.Width, x.Class.Bits.N, x.Class.Bits.W[:min(2, len(x.Class.Bits.W))], x.Off.N, x.Off.W[:min(4, len(x.Off.W))],
		len(x.Ones), x.Ones[:min(4, len(x.Ones))], len(x.Points), x.Points[:min(4, len(x.Points))])
}

// built answers Build of the bits l.
func built(t *testing.T, l []bool) api.Rrr {
	t.Helper()
	x, e := rrr.Build(row(l))
	if e != api.OK {
		t.Fatalf("Build of %d bits: %d", len(l), e)
	}
	return x
}

// wrongRows are rows of bits that may not be.
func wrongRows() []api.Bits {
	l := []api.Bits{
		{N: math.MinInt}, {N: math.MinInt + 14}, {N: -1}, {N: -1, W: []uint64{0}}, {N: -14}, {N: -15, W: []uint64{0}}, {N: -120}, {N: -513, W: []uint64{1}},
		{N: most + 1, W: make([]uint64, most/64)}, {N: most + 1, W: make([]uint64, most/64+1)}, {N: most + 64, W: make([]uint64, most/64+1)},
		{N: 1 << 32}, {N: math.MaxInt}, {N: math.MaxInt, W: []uint64{1, 2}}, {N: math.MaxInt - 13}, {N: math.MaxInt - 14},
		{N: 0, W: []uint64{0}}, {N: 0, W: []uint64{5}}, {N: 1}, {N: 1, W: []uint64{1, 0}}, {N: 15}, {N: 15, W: []uint64{0, 0}}, {N: 64}, {N: 64, W: []uint64{3, 0}},
		{N: 65, W: []uint64{9}}, {N: 65, W: []uint64{9, 1, 0}}, {N: 120, W: []uint64{1}}, {N: 120, W: []uint64{1, 2, 3}},
		{N: most, W: make([]uint64, most/64-1)}, {N: most, W: make([]uint64, most/64+1)}, {N: most - 1, W: slices.Repeat([]uint64{all}, most/64)},
	}
	for _, n := range []int{1, 14, 15, 16, 30, 62, 63} { // one bit of the last word from N on
		for _, place := range []int{n, 63} {
			l = append(l, api.Bits{N: n, W: []uint64{1 << place}}, api.Bits{N: 64 + n, W: []uint64{all, 1<<place | 1}})
		}
	}
	return l
}

// changed answers x with something changed by f, in lists of their own.
func changed(x api.Rrr, f func(x *api.Rrr)) api.Rrr {
	y := clone(x)
	f(&y)
	return y
}

// wrongCounts answers l with counts of which one is another, or of which there is one too few or too many.
func wrongCounts(l []int) [][]int {
	out := [][]int{nil, append(slices.Clone(l), 0), append(slices.Clone(l), l[len(l)-1]), append(slices.Clone(l), math.MaxInt)}
	for i, v := range l {
		for _, other := range []int{v - 1, v + 1, -v - 1, v + 15, v + 256, v + 1<<32, math.MinInt, math.MaxInt} {
			c := slices.Clone(l)
			c[i] = other
			out = append(out, c)
		}
		out = append(out, slices.Delete(slices.Clone(l), i, i+1), slices.Insert(slices.Clone(l), i, v))
	}
	return out
}

// otherCounts answers values like x of which Ones or Points are others.
func otherCounts(x api.Rrr) []api.Rrr {
	var out []api.Rrr
	for _, c := range wrongCounts(x.Ones) {
		out = append(out, changed(x, func(y *api.Rrr) { y.Ones = c }))
	}
	for _, c := range wrongCounts(x.Points) {
		out = append(out, changed(x, func(y *api.Rrr) { y.Points = c }))
	}
	return append(out, changed(x, func(y *api.Rrr) { y.Ones, y.Points = append(y.Ones, 0), append(y.Points, 0) }),
		changed(x, func(y *api.Rrr) { y.Ones, y.Points = nil, nil }),
		changed(x, func(y *api.Rrr) { y.Ones[0], y.Points[0] = 1, 1 }))
}

// otherLengths answers values like x of which N, or what its rows say of their lengths, is another.
func otherLengths(x api.Rrr) []api.Rrr {
	var out []api.Rrr
	for _, n := range []int{math.MinInt, -1 - x.N, x.N + 15, x.N + 120, x.N - 15, most + 1, 1 << 32, math.MaxInt - 14, math.MaxInt - 13, math.MaxInt} {
		out = append(out, changed(x, func(y *api.Rrr) { y.N = n }))
	}
	for _, d := range []int{math.MinInt, -1, 1, 16, math.MaxInt} {
		out = append(out, changed(x, func(y *api.Rrr) { y.Class.N += d }), changed(x, func(y *api.Rrr) { y.Class.Bits.N += d }), changed(x, func(y *api.Rrr) { y.Off.N += d }))
	}
	for _, width := range []int{math.MinInt, -4, 0, 1, 2, 3, 5, 8, 64, 65, math.MaxInt} {
		out = append(out, changed(x, func(y *api.Rrr) { y.Class.Width = width }))
	}
	return append(out,
		changed(x, func(y *api.Rrr) { y.Class.Bits.W = append(y.Class.Bits.W, 0) }),
		changed(x, func(y *api.Rrr) { y.Off.W = append(y.Off.W, 0) }),
		changed(x, func(y *api.Rrr) { y.Class = api.Ints{} }))
}

// otherBits answers values like x of which one bit of Class or Off is another, one block too few or too many, or Off one bit longer or shorter. Some of them are Build of another row.
func otherBits(x api.Rrr) []api.Rrr {
	var out []api.Rrr
	class, off := listed(x.Class.Bits), listed(x.Off)
	for _, l := range [][]bool{class[:max(0, len(class)-4)], append(slices.Clone(class), false, false, false, false), append(slices.Clone(class), true, true, true, true)} {
		out = append(out, changed(x, func(y *api.Rrr) { y.Class.N, y.Class.Bits = len(l)/4, row(l) }))
	}
	for _, l := range [][]bool{off[:max(0, len(off)-1)], append(slices.Clone(off), false), append(slices.Clone(off), true)} {
		out = append(out, changed(x, func(y *api.Rrr) { y.Off = row(l) }))
	}
	for i := range 64 * len(x.Class.Bits.W) {
		out = append(out, changed(x, func(y *api.Rrr) { y.Class.Bits.W[i/64] ^= 1 << (i % 64) }))
	}
	for i := range 64 * len(x.Off.W) {
		out = append(out, changed(x, func(y *api.Rrr) { y.Off.W[i/64] ^= 1 << (i % 64) }))
	}
	return out
}

// otherBlocks answers values like Build of l with one block another: of each class, with no offset, the greatest one, and one more than that.
func otherBlocks(l []bool) []api.Rrr {
	var out []api.Rrr
	classes, offs := cut(l)
	for _, i := range []int{0, 7, 8, len(classes) - 2, len(classes) - 1} {
		if i < 0 || i >= len(classes) {
			continue
		}
		for class := range words {
			for _, off := range []int{0, len(words[class]) - 1, len(words[class]), 1<<width(class) - 1} {
				c, o := slices.Clone(classes), slices.Clone(offs)
				c[i], o[i] = class, off
				out = append(out, joined(len(l), c, o))
			}
		}
	}
	return out
}

// notToBe are values of which none may be.
func notToBe() []api.Rrr {
	none := api.Ints{Width: 4}
	out := []api.Rrr{{}, {Class: none}, {Ones: []int{0}, Points: []int{0}}, {Class: none, Ones: []int{0}}, {Class: none, Points: []int{0}}, {N: 1, Class: none, Ones: []int{0}, Points: []int{0}}, {N: -1, Class: none, Ones: []int{0}, Points: []int{0}}, {N: -14, Class: none, Ones: []int{0}, Points: []int{0}}}
	for _, b := range wrongRows() {
		out = append(out, api.Rrr{N: b.N, Class: none, Off: b, Ones: []int{0}, Points: []int{0}}, api.Rrr{N: 1, Class: api.Ints{N: 1, Width: 4, Bits: b}, Ones: []int{0}, Points: []int{0}}, api.Rrr{Class: api.Ints{Width: 4, Bits: b}, Ones: []int{0}, Points: []int{0}}, api.Rrr{N: 16, Class: api.Ints{N: 2, Width: 4, Bits: row(make([]bool, 8))}, Off: b, Ones: []int{0}, Points: []int{0}})
	}
	for _, n := range []int{0, 1, 14, 15, 16, 30, 64, 119, 120, 121, 240, 241} {
		for _, l := range [][]bool{but(n, -1, true), but(n, -1, false), mixed(n)} {
			out = append(out, otherCounts(expected(l))...)
			out = append(out, otherLengths(expected(l))...)
		}
	}
	return out
}

// P8.1 Build, at every edge, of each kind of row.
func TestBuild(t *testing.T) {
	for _, n := range append(lengths(), 8192) {
		for _, l := range kinds(n) {
			b := row(l)
			x, e := rrr.Build(b)
			if want := expected(l); e != api.OK || !same(x, want) {
				t.Errorf("Build = %s, %d, want %s", short(x), e, short(want))
			}
			if !sameRow(b, row(l)) {
				t.Errorf("Build changed its %d bits", n)
			}
		}
	}
	for _, n := range great() {
		for _, l := range [][]bool{but(n, -1, false), mixed(n), each(n)} {
			if x, want := built(t, l), expected(l); !same(x, want) {
				t.Errorf("Build = %s, want %s", short(x), short(want))
			}
		}
	}
}

// P8.1: every word of 15 bits is told by its class and its offset, and read again by them.
func TestEachBlock(t *testing.T) {
	var l []bool
	for w := range uint64(1 << 15) {
		l = append(l, lowest(w, 15)...)
	}
	x := built(t, l)
	if !same(x, expected(l)) || !rrr.Check(x) || !sameRow(rrr.Bits(x), row(l)) {
		t.Error("the row of all blocks is another")
	}
}

// P8.1: what is built of rows that are written out, and how many numbers there are.
func TestWrittenOut(t *testing.T) {
	for _, c := range []struct{ n, blocks, counts int }{
		{0, 0, 1}, {1, 1, 1}, {14, 1, 1}, {15, 1, 1}, {16, 2, 1}, {30, 2, 1}, {119, 8, 1}, {120, 8, 1}, {121, 9, 2}, {239, 16, 2}, {240, 16, 2}, {241, 17, 3}, {1025, 69, 9}, {most, 69906, 8739},
	} {
		x := built(t, mixed(c.n))
		if x.N != c.n || x.Class.N != c.blocks || x.Class.Width != 4 || x.Class.Bits.N != 4*c.blocks || len(x.Ones) != c.counts || len(x.Points) != c.counts {
			t.Errorf("Build of %d bits = %s, want %d blocks and %d counts", c.n, short(x), c.blocks, c.counts)
		}
	}
	// 0b110 has class 2; less are 0b011 and 0b101: offset 2 in 7 bits (105 such blocks). A 1 alone has offset 0 in 4 bits. A block of 14 ones has a nought below: offset 14 in 4 bits.
	l := slices.Concat(lowest(6, 15), lowest(1, 15), lowest(1<<15-2, 15), lowest(1<<4, 5))
	want := api.Rrr{N: 50,
		Class: api.Ints{N: 4, Width: 4, Bits: api.Bits{N: 16, W: []uint64{0x1e12}}},
		Off:   api.Bits{N: 19, W: []uint64{2 | 14<<11 | 4<<15}},
		Ones:  []int{0}, Points: []int{0}}
	if x := built(t, l); !same(x, want) {
		t.Errorf("Build = %s, want %s", short(x), short(want))
	}
	// Eight blocks of 7 ones, 13 bits of offset each, then one 1.
	l = append(slices.Repeat(lowest(127, 15), 8), true)
	want = api.Rrr{N: 121,
		Class: api.Ints{N: 9, Width: 4, Bits: api.Bits{N: 36, W: []uint64{0x177777777}}},
		Off:   api.Bits{N: 108, W: []uint64{0, 0}},
		Ones:  []int{0, 56}, Points: []int{0, 104}}
	if x := built(t, l); !same(x, want) {
		t.Errorf("Build = %s, want %s", short(x), short(want))
	}
}

// P8.1: Build of a row that may not be is refused.
func TestBuildRefused(t *testing.T) {
	for _, b := range wrongRows() {
		before := api.Bits{N: b.N, W: slices.Clone(b.W)}
		if x, e := rrr.Build(b); e != api.ErrArg || !same(x, api.Rrr{}) {
			t.Errorf("Build of %d bits in %d words = %s, %d", b.N, len(b.W), short(x), e)
		}
		if !sameRow(b, before) {
			t.Errorf("Build changed %d bits in %d words", b.N, len(b.W))
		}
	}
}

// P8.1 Check, Bits and Size, and P8.3: what is built may be, and its Bits are the row.
func TestWhatIsBuilt(t *testing.T) {
	for _, n := range append(lengths(), 8192) {
		for _, l := range kinds(n) {
			wantBuilt(t, expected(l), l)
			wantBuilt(t, built(t, l), l)
		}
	}
	for _, n := range great() {
		wantBuilt(t, built(t, mixed(n)), mixed(n))
		wantBuilt(t, built(t, each(n)), each(n))
	}
}

// wantBuilt checks that x is taken for Build of l.
func wantBuilt(t *testing.T, x api.Rrr, l []bool) {
	t.Helper()
	before := clone(x)
	if !rrr.Check(x) {
		t.Errorf("Check(%s) = false", short(x))
	}
	if b := rrr.Bits(x); !sameRow(b, row(l)) {
		t.Errorf("Bits(%s) = %d bits in %d words, not the row", short(x), b.N, len(b.W))
	}
	if got, want := rrr.Size(x), x.Class.Bits.N+x.Off.N+64*len(x.Ones); got != want {
		t.Errorf("Size(%s) = %d, want %d", short(x), got, want)
	}
	if !same(x, before) {
		t.Errorf("%s was changed to %s", short(before), short(x))
	}
}

// wantRefused checks that x is taken for a value that may not be: ErrArg, whatever else is wrong, and zeros.
func wantRefused(t *testing.T, x api.Rrr) {
	t.Helper()
	before := clone(x)
	if rrr.Check(x) {
		t.Errorf("Check(%s) = true", short(x))
	}
	if b := rrr.Bits(x); b.N != 0 || len(b.W) != 0 {
		t.Errorf("Bits(%s) = %d bits in %d words", short(x), b.N, len(b.W))
	}
	if n := rrr.Size(x); n != 0 {
		t.Errorf("Size(%s) = %d", short(x), n)
	}
	for _, i := range []int{math.MinInt, -1, 0, 1, x.N - 1, x.N, math.MaxInt} {
		if bit, e := rrr.Access(x, i); bit || e != api.ErrArg {
			t.Errorf("Access(%s, %d) = %v, %d", short(x), i, bit, e)
		}
		for _, bit := range both {
			if n, e := rrr.Rank(x, bit, i); n != 0 || e != api.ErrArg {
				t.Errorf("Rank(%s, %v, %d) = %d, %d", short(x), bit, i, n, e)
			}
			if at, e := rrr.Select(x, bit, i); at != 0 || e != api.ErrArg {
				t.Errorf("Select(%s, %v, %d) = %d, %d", short(x), bit, i, at, e)
			}
		}
	}
	if !same(x, before) {
		t.Errorf("%s was changed to %s", short(before), short(x))
	}
}

// P8.1 and P8.2: of a value that may not be there is ErrArg, and zeros.
func TestValuesThatMayNotBe(t *testing.T) {
	for _, x := range notToBe() {
		wantRefused(t, x)
	}
	for _, n := range []int{most + 1, most + 14, most + 15, most + 120} { // more bits than a row has, and all else as of such a row
		wantRefused(t, expected(mixed(n)))
	}
}

// P8.1 Check: a value with one thing another is Build of another row, or of none.
func TestOneThingAnother(t *testing.T) {
	rows, none := 0, 0
	for _, n := range []int{0, 1, 14, 15, 16, 30, 63, 64, 65, 119, 120, 121, 239, 240, 241} {
		for _, l := range [][]bool{but(n, -1, true), but(n, -1, false), mixed(n), thin(n), each(n)} {
			x := expected(l)
			for _, y := range slices.Concat(otherCounts(x), otherLengths(x), otherBits(x), otherBlocks(l)) {
				if m, ok := read(y); ok {
					rows++
					wantBuilt(t, y, m)
				} else {
					none++
					wantRefused(t, y)
				}
			}
		}
	}
	if rows < 1000 || none < 1000 {
		t.Errorf("%d values are Build of a row, %d are not: both should be many", rows, none)
	}
}

// P8.1: bits of the last block from N on are noughts, and each offset is one that its class has.
func TestLastBlock(t *testing.T) {
	for _, n := range []int{1, 14, 16, 29, 31, 119, 121, 134, 241} {
		for place := n; place%15 > 0; place++ {
			l := append(mixed(n), make([]bool, 15-n%15)...)
			l[place] = true
			x := expected(l)
			wantBuilt(t, x, l)
			x.N = n
			wantRefused(t, x)
		}
	}
	for class, l := range words {
		for _, i := range []int{0, 3, 7, 8, 9, 15, 16} { // in the first, a middle and the last block of 17
			classes, offs := make([]int, 17), make([]int, 17)
			classes[i], offs[i] = class, len(l)-1
			if x := joined(255, classes, offs); !rrr.Check(x) {
				t.Errorf("Check(%s) = false", short(x))
			}
			offs[i]++ // of class 0 and 15, there is no bit to put it into
			if x := joined(255, classes, offs); width(class) > 0 && rrr.Check(x) {
				t.Errorf("Check(%s) = true, but class %d does not have that offset", short(x), class)
			}
		}
	}
}

// P8.1: every single number of a long row is held against the blocks.
func TestCheckOfEachCount(t *testing.T) {
	x := built(t, mixed(most))
	for i := 0; i < len(x.Ones); i += 97 {
		wantAnother(t, x, &x.Ones[i])
		wantAnother(t, x, &x.Points[i])
	}
	wantAnother(t, x, &x.Ones[len(x.Ones)-1])
	wantAnother(t, x, &x.Points[len(x.Points)-1])
	if !rrr.Check(x) {
		t.Error("with its counts as they were it may be")
	}
}

// wantAnother checks that x may not be once one of its numbers is another; it is put back behind.
func wantAnother(t *testing.T, x api.Rrr, number *int) {
	t.Helper()
	for _, d := range []int{-1, 1} {
		*number += d
		if rrr.Check(x) {
			t.Errorf("%s with a count that is %d may be", short(x), *number)
		}
		*number -= d
	}
}

// P8.1 Size, written out.
func TestSize(t *testing.T) {
	for _, c := range []struct {
		l    []bool
		want int
	}{
		{nil, 64}, {but(1, 0, true), 4 + 4 + 64}, {but(15, -1, true), 4 + 64}, {but(15, -1, false), 4 + 64}, {but(16, -1, false), 8 + 4 + 64},
		{slices.Repeat(lowest(127, 15), 8), 8*(4+13) + 64}, {slices.Repeat(lowest(255, 15), 9), 9*(4+13) + 128}, {but(most, -1, true), 4*69906 + 64*8739},
	} {
		if got := rrr.Size(built(t, c.l)); got != c.want {
			t.Errorf("Size of %d bits = %d, want %d", len(c.l), got, c.want)
		}
	}
}

// P8.1: the row of no bits, its lists nil or empty.
func TestNoBits(t *testing.T) {
	want := api.Rrr{Class: api.Ints{Width: 4}, Ones: []int{0}, Points: []int{0}}
	for _, b := range []api.Bits{{}, {W: []uint64{}}} {
		if x, e := rrr.Build(b); e != api.OK || !same(x, want) {
			t.Errorf("Build of no bits = %s, %d", short(x), e)
		}
	}
	empty := clone(want)
	empty.Class.Bits.W, empty.Off.W = []uint64{}, []uint64{}
	for _, x := range []api.Rrr{want, empty} {
		wantBuilt(t, x, nil)
		for _, bit := range both {
			if n, e := rrr.Rank(x, bit, 0); n != 0 || e != api.OK {
				t.Errorf("Rank of no bits = %d, %d", n, e)
			}
		}
	}
}

// asked are the places at which rows of n bits are asked: all of a short one; of others those at the edges of blocks and of groups, one below and one above.
func asked(n int) []int {
	var l []int
	if n <= 1100 {
		for i := range n + 1 {
			l = append(l, i)
		}
		return l
	}
	for _, at := range []int{0, 15, 105, 120, 135, 240, n / 2 / 120 * 120, n/2/120*120 + 15, n/120*120 - 120, n / 120 * 120, n / 15 * 15, n} {
		for d := range 3 {
			if i := at + d - 1; i >= 0 && i <= n {
				l = append(l, i)
			}
		}
	}
	return l
}

// questions answers rows of every kind that are asked at the places that asked answers.
func questions() [][]bool {
	var rows [][]bool
	for _, n := range lengths() {
		rows = append(rows, kinds(n)...)
	}
	rows = append(rows, mixed(8192), runs(8192), thin(8192))
	rows = append(rows, but(most, -1, true), but(most, -1, false))
	for _, n := range []int{most / 120 * 120, most / 15 * 15, most} {
		rows = append(rows, mixed(n))
	}
	return rows
}

// P8.2 Access.
func TestAccess(t *testing.T) {
	for _, l := range questions() {
		n := len(l)
		x := built(t, l)
		for _, i := range asked(n) {
			if i == n {
				continue
			}
			if bit, e := rrr.Access(x, i); bit != l[i] || e != api.OK {
				t.Fatalf("Access(%s, %d) = %v, %d, want %v", short(x), i, bit, e, l[i])
			}
		}
		for _, i := range append(far(), n, n+1, n+14, n+15, n+120) {
			if bit, e := rrr.Access(x, i); bit || e != api.ErrRange {
				t.Errorf("Access(%s, %d) = %v, %d, want ErrRange", short(x), i, bit, e)
			}
		}
	}
}

// P8.2 Rank.
func TestRank(t *testing.T) {
	for _, l := range questions() {
		n := len(l)
		x := built(t, l)
		before := clone(x)
		for _, bit := range both {
			want := ahead(l, bit)
			for _, i := range asked(n) {
				if got, e := rrr.Rank(x, bit, i); got != want[i] || e != api.OK {
					t.Fatalf("Rank(%s, %v, %d) = %d, %d, want %d", short(x), bit, i, got, e, want[i])
				}
			}
			for _, i := range append(far(), n+1, n+2, n+14, n+15, n+120) {
				if got, e := rrr.Rank(x, bit, i); got != 0 || e != api.ErrRange {
					t.Errorf("Rank(%s, %v, %d) = %d, %d, want ErrRange", short(x), bit, i, got, e)
				}
			}
		}
		if !same(x, before) {
			t.Errorf("Rank changed %s", short(before))
		}
	}
}

// P8.2 Select. Of noughts there are only those of the row: k of the first one that the last block was filled up with is ErrRange.
func TestSelect(t *testing.T) {
	for _, l := range questions() {
		x := built(t, l)
		before := clone(x)
		for _, bit := range both {
			want := places(l, bit)
			m := len(want)
			for _, k := range asked(m) {
				if k == m {
					continue
				}
				if at, e := rrr.Select(x, bit, k); at != want[k] || e != api.OK {
					t.Fatalf("Select(%s, %v, %d) = %d, %d, want %d", short(x), bit, k, at, e, want[k])
				}
			}
			for _, k := range append(far(), m, m+1, m+14, m+15, m+120, len(l)) {
				if at, e := rrr.Select(x, bit, k); at != 0 || e != api.ErrRange {
					t.Errorf("Select(%s, %v, %d) = %d, %d, want ErrRange", short(x), bit, k, at, e)
				}
			}
		}
		if !same(x, before) {
			t.Errorf("Select changed %s", short(before))
		}
	}
}

// P8.2: Rank and Select lead to one another: ahead of the place that Select answers there are k, and from each bit both lead back to it.
func TestRankAndSelect(t *testing.T) {
	for _, n := range lengths() {
		for _, l := range kinds(n) {
			x := built(t, l)
			for i := range n {
				bit, _ := rrr.Access(x, i)
				k, _ := rrr.Rank(x, bit, i)
				if at, e := rrr.Select(x, bit, k); at != i || e != api.OK {
					t.Fatalf("%s: Select of Rank of %v at %d = %d, %d", short(x), bit, i, at, e)
				}
			}
			total := 0
			for _, bit := range both {
				m, _ := rrr.Rank(x, bit, n)
				total += m
				for k := range m {
					at, _ := rrr.Select(x, bit, k)
					got, _ := rrr.Access(x, at)
					if r, e := rrr.Rank(x, bit, at); r != k || e != api.OK || got != bit {
						t.Fatalf("%s: Rank of Select of %v with %d ahead = %d, %d", short(x), bit, k, r, e)
					}
				}
			}
			if total != n {
				t.Fatalf("%s: %d bits are 0 or 1", short(x), total)
			}
		}
	}
}

// R3: what is answered is memory of its own, also apart from what it was made of, and no two lists of one answer share any.
func TestSharesNothing(t *testing.T) {
	for _, n := range lengths() {
		b := row(mixed(n))
		x, _ := rrr.Build(b)
		y, _ := rrr.Build(b)
		c, d := rrr.Bits(x), rrr.Bits(x)
		words := [][]uint64{b.W, x.Class.Bits.W, x.Off.W, y.Class.Bits.W, y.Off.W, c.W, d.W}
		counts := [][]int{x.Ones, x.Points, y.Ones, y.Points}
		wantAlone(t, n, words, func(v uint64) uint64 { return ^v })
		wantAlone(t, n, counts, func(v int) int { return ^v })
	}
}

// wantAlone checks that none of the lists is changed when another is, with all the room that they have.
func wantAlone[T comparable](t *testing.T, n int, lists [][]T, other func(T) T) {
	t.Helper()
	for i := range lists {
		lists[i] = lists[i][:cap(lists[i])]
	}
	for i, l := range lists {
		var before [][]T
		for _, m := range lists {
			before = append(before, slices.Clone(m))
		}
		for j := range l {
			l[j] = other(l[j])
		}
		for k, m := range lists {
			if k != i && !slices.Equal(m, before[k]) {
				t.Errorf("%d bits: list %d shares its memory with list %d", n, i, k)
			}
		}
		copy(l, before[i])
	}
}

// R7: what stands in the room behind the end of a list is neither read nor written to.
func TestRoomBehindTheEnd(t *testing.T) {
	for _, n := range []int{0, 1, 15, 64, 65, 120, 121, 241} {
		l := mixed(n)
		want := expected(l)
		b := row(l)
		b.W = roomy(b.W, all)
		if x, e := rrr.Build(b); e != api.OK || !same(x, want) {
			t.Errorf("Build of %d bits with room behind = %s, %d", n, short(x), e)
		}
		x := clone(want)
		x.Class.Bits.W, x.Off.W = roomy(x.Class.Bits.W, all), roomy(x.Off.W, all)
		x.Ones, x.Points = roomy(x.Ones, -5), roomy(x.Points, -6)
		wantBuilt(t, x, l)
		if got, e := rrr.Rank(x, true, n); got != ahead(l, true)[n] || e != api.OK {
			t.Errorf("Rank(%s, true, %d) = %d, %d", short(x), n, got, e)
		}
		for _, w := range [][]uint64{b.W, x.Class.Bits.W, x.Off.W} {
			if !slices.Equal(w[len(w):len(w)+2], []uint64{all, all}) {
				t.Errorf("the room behind %d bits was written to", n)
			}
		}
		if !slices.Equal(x.Ones[len(x.Ones):len(x.Ones)+2], []int{-5, -5}) || !slices.Equal(x.Points[len(x.Points):len(x.Points)+2], []int{-6, -6}) {
			t.Errorf("the room behind the counts of %d bits was written to", n)
		}
	}
}

// roomy answers l with v, v in the room behind its end.
func roomy[T any](l []T, v T) []T {
	return slices.Concat(l, []T{v, v})[:len(l)]
}

// The chapter's example: 15 noughts have class 0, and no bits of offsets.
func TestExample(t *testing.T) {
	x, e := rrr.Build(api.Bits{N: 15, W: []uint64{0}})
	want := api.Rrr{N: 15, Class: api.Ints{N: 1, Width: 4, Bits: api.Bits{N: 4, W: []uint64{0}}}, Ones: []int{0}, Points: []int{0}}
	if e != api.OK || !same(x, want) {
		t.Errorf("Build of 15 noughts = %s, %d, want %s", short(x), e, short(want))
	}
}
