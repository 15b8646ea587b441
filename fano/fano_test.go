package fano_test

import (
	"fmt"
	"math"
	"slices"
	"testing"

	"haystack/api"
	"haystack/fano"
)

const (
	all  = math.MaxUint64
	most = 1 << 20 // MaxBits, written out as the document does
)

// both are the two bits that are counted and sought.
var both = []bool{false, true}

// mixed answers n bits of a fixed row that has runs and changes, about half of them 1.
func mixed(n int) []bool {
	l := make([]bool, n)
	x := uint64(88172645463325252)
	for i := range l {
		x ^= x << 13
		x ^= x >> 7
		x ^= x << 17
		l[i] = x>>40&1 == 1
	}
	return l
}

// half answers n bits, every other one 1, the first of them 0: just half of them, rounded down.
func half(n int) []bool {
	l := make([]bool, n)
	for i := range l {
		l[i] = i%2 == 1
	}
	return l
}

// firsts answers n bits, the first m of them 1: how many there are is chosen to the one.
func firsts(n int, m int) []bool {
	l := make([]bool, n)
	for i := range m {
		l[i] = true
	}
	return l
}

// lasts answers n bits, the last m of them 1.
func lasts(n int, m int) []bool {
	l := firsts(n, m)
	slices.Reverse(l)
	return l
}

// few answers n bits of which few are 1, some of them close to one another.
func few(n int) []bool {
	l := make([]bool, n)
	for i := range l {
		l[i] = i%37 == 5 || i%101 == 3 || i%101 == 4
	}
	return l
}

// every answers n bits, each step-th of them 1.
func every(n int, step int) []bool {
	l := make([]bool, n)
	for i := range l {
		l[i] = i%step == step/2
	}
	return l
}

// but answers n bits, all of them unlike x but the one at a place, if there is such a place.
func but(n int, place int, x bool) []bool {
	l := slices.Repeat([]bool{!x}, n)
	if place >= 0 && place < n {
		l[place] = x
	}
	return l
}

// kinds answers rows of n bits: all 0, all 1, mixed, half of them 1, few, at the edges of how many are 1, and with one bit unlike the others, the first, the last, or one in the middle.
func kinds(n int) [][]bool {
	l := [][]bool{but(n, -1, true), but(n, -1, false), mixed(n), half(n), few(n), every(n, 3), every(n, 4), every(n, 8), every(n, 9)}
	for _, m := range []int{n/2 - 1, n/2 + 1, n / 4, n/4 + 1, n / 8} {
		if m > 0 && m <= n {
			l = append(l, firsts(n, m), lasts(n, m))
		}
	}
	for _, x := range both {
		l = append(l, but(n, 0, x), but(n, n/2, x), but(n, n-1, x))
	}
	return l
}

// lengths are how many bits the short rows have.
func lengths() []int {
	return []int{0, 1, 2, 3, 4, 7, 8, 9, 15, 16, 17, 31, 32, 33, 63, 64, 65, 100, 127, 128, 129, 255, 256, 257, 512, 1025}
}

// longest are the longest rows that still go: High of most of them has MaxBits bits, or one less.
func longest() [][]bool {
	return [][]bool{
		but(most-1, -1, true), but(most-2, -1, true), // no place: w 0, High has N and one
		but(most/2-1, -1, false),                                                // all are places: w 0, High has twice N and one
		firsts(699049, 349525),                                                  // above half: w 0
		firsts(most, most/2-1),                                                  // below half: w 1
		lasts(most, most/2-1), lasts(most-1, most/2-1), lasts(most-2, most/2-1), // rounded down
		firsts(most, most/4+1), lasts(most, most/4), firsts(most, most/8), // w 1, 2, 3
		but(most, 0, true), but(most, most/2, true), but(most, most-1, true), // one place: w 20
		every(most, 1000), every(most-1, 3), few(most),
	}
}

// tooLong are rows that may be, but whose High would have more than MaxBits bits.
func tooLong() [][]bool {
	return [][]bool{
		but(most, -1, true), but(most, -1, false), but(most-1, -1, false), but(most/2, -1, false), but(most/2+1, -1, false),
		firsts(699050, 349526), firsts(699051, 349526), half(most), firsts(most, most/2), lasts(most, most/2), firsts(most, most/2+1), lasts(most-1, most/2),
		but(most, 0, false), but(most, most-1, false), but(most/2+1, 3, false),
	}
}

// far are places and counts far from every row.
func far() []int {
	return []int{math.MinInt, math.MinInt + 1, math.MinInt32, -most, -65, -64, -63, -2, -1, most + 1, 2 * most, math.MaxInt32, 1 << 32, 1<<32 + 1, math.MaxInt - 64, math.MaxInt - 1, math.MaxInt}
}

// row answers the row of the bits l.
func row(l []bool) api.Bits {
	b := api.Bits{N: len(l)}
	for i, x := range l {
		if i%64 == 0 {
			b.W = append(b.W, 0)
		}
		if x {
			b.W[i/64] += 1 << (i % 64)
		}
	}
	return b
}

// listed answers the bits of b.
func listed(b api.Bits) []bool {
	l := make([]bool, b.N)
	for i := range l {
		l[i] = b.W[i/64]>>(i%64)&1 == 1
	}
	return l
}

// ahead answers, for each place of l and for its end, how many of the bits ahead of it are x.
func ahead(l []bool, x bool) []int {
	counts := make([]int, len(l)+1)
	for i := range l {
		counts[i+1] = counts[i]
		if l[i] == x {
			counts[i+1]++
		}
	}
	return counts
}

// places answers the places of the bits of l that are x.
func places(l []bool, x bool) []int {
	var at []int
	for i := range l {
		if l[i] == x {
			at = append(at, i)
		}
	}
	return at
}

// width answers w: the greatest for which m, doubled so often, is no more than n; 0, if m is 0.
func width(n int, m int) int {
	w := 0
	for m > 0 && 2*m <= n {
		m *= 2
		w++
	}
	return w
}

// told answers the row of n bits by these places, as the chapter says it, without the package that is tested: also of places that do not rise, as long as the bits of High do.
func told(n int, at []int) api.Fano {
	w := width(n, len(at))
	parts := 1
	for range w {
		parts *= 2
	}
	var low []bool
	for _, p := range at {
		for k, rest := 0, p%parts; k < w; k, rest = k+1, rest/2 {
			low = append(low, rest%2 == 1)
		}
	}
	high := make([]bool, len(at)+n/parts+1)
	for i, p := range at {
		high[p/parts+i] = true
	}
	x := api.Fano{N: n, M: len(at), Low: api.Ints{N: len(at), Width: w, Bits: row(low)}, High: row(high)}
	if w == 0 {
		x.Low = api.Ints{Width: 1}
	}
	return x
}

// expected answers Build of l.
func expected(l []bool) api.Fano {
	return told(len(l), places(l, true))
}

// mayRow tells whether b is a row that may be.
func mayRow(b api.Bits) bool {
	return b.N >= 0 && b.N <= most && len(b.W) == (b.N+63)/64 && sameRow(b, row(listed(b)))
}

// read answers the row whose Build x is, and whether there is one: the places are read naively, then all is built again.
func read(x api.Fano) ([]bool, bool) {
	if !mayRow(x.Low.Bits) || !mayRow(x.High) || x.N < 0 || x.N > most || x.M < 0 || x.M > x.N {
		return nil, false
	}
	w := width(x.N, x.M)
	low := listed(x.Low.Bits)
	l := make([]bool, x.N)
	noughts := 0
	for _, bit := range listed(x.High) {
		if !bit {
			noughts++
			continue
		}
		p := noughts
		for range w {
			p *= 2
		}
		for k, weight := 0, 1; k < w && len(low) > 0; k, weight = k+1, 2*weight {
			if low[0] {
				p += weight
			}
			low = low[1:]
		}
		if p >= x.N {
			return nil, false
		}
		l[p] = true
	}
	return l, same(x, expected(l))
}

func sameRow(a, b api.Bits) bool {
	return a.N == b.N && slices.Equal(a.W, b.W)
}

func same(a, b api.Fano) bool {
	return a.N == b.N && a.M == b.M && a.Low.N == b.Low.N && a.Low.Width == b.Low.Width && sameRow(a.Low.Bits, b.Low.Bits) && sameRow(a.High, b.High)
}

func clone(x api.Fano) api.Fano {
	x.Low.Bits.W = slices.Clone(x.Low.Bits.W)
	x.High.W = slices.Clone(x.High.W)
	return x
}

// short tells a value in few words: the greatest ones would fill the screen.
func short(x api.Fano) string {
	return fmt.Sprintf("{N %d, M %d, Low %d of %d in %d bits %#x.., High %d bits %#x..}", x.N, x.M,
		x.Low.N, x.Low.Width, x.Low.Bits.N, x.Low.Bits.W[:min(4, len(x.Low.Bits.W))], x.High.N, x.High.W[:min(4, len(x.High.W))])
}

// built answers Build of the bits l.
func built(t *testing.T, l []bool) api.Fano {
	t.Helper()
	x, e := fano.Build(row(l))
	if e != api.OK {
		t.Fatalf("Build of %d bits: %d", len(l), e)
	}
	return x
}

// wrongRows are rows of bits that may not be.
func wrongRows() []api.Bits {
	l := []api.Bits{
		{N: math.MinInt}, {N: -1}, {N: -1, W: []uint64{0}}, {N: -63}, {N: -64, W: []uint64{0}}, {N: -513, W: []uint64{1}},
		{N: most + 1, W: make([]uint64, most/64)}, {N: most + 1, W: make([]uint64, most/64+1)}, {N: most + 64, W: make([]uint64, most/64+1)},
		{N: 1 << 32}, {N: math.MaxInt}, {N: math.MaxInt, W: []uint64{1, 2}}, {N: math.MaxInt - 63},
		{N: 0, W: []uint64{0}}, {N: 0, W: []uint64{5}}, {N: 1}, {N: 1, W: []uint64{1, 0}}, {N: 15}, {N: 15, W: []uint64{0, 0}}, {N: 64}, {N: 64, W: []uint64{3, 0}},
		{N: 65, W: []uint64{9}}, {N: 65, W: []uint64{9, 1, 0}}, {N: 128, W: []uint64{1}}, {N: 128, W: []uint64{1, 2, 3}},
		{N: most, W: make([]uint64, most/64-1)}, {N: most, W: make([]uint64, most/64+1)}, {N: most - 1, W: append(make([]uint64, most/64-1), 1<<63)},
	}
	for _, n := range []int{1, 15, 16, 62, 63} { // one bit of the last word from N on
		for _, place := range []int{n, 63} {
			l = append(l, api.Bits{N: n, W: []uint64{1 << place}}, api.Bits{N: 64 + n, W: []uint64{all, 1<<place | 1}})
		}
	}
	return l
}

// changed answers x with something changed by f, in lists of their own.
func changed(x api.Fano, f func(x *api.Fano)) api.Fano {
	y := clone(x)
	f(&y)
	return y
}

// otherNumbers answers values like x of which N, M, or what its rows say of their lengths, is another.
func otherNumbers(x api.Fano) []api.Fano {
	var out []api.Fano
	for _, n := range []int{math.MinInt, -1 - x.N, -1, 0, 1, x.N - 2, x.N - 1, x.N + 1, x.N + 2, 2 * x.N, 2*x.N + 1, x.N / 2, most, most + 1, 1 << 32, math.MaxInt - 1, math.MaxInt} {
		out = append(out, changed(x, func(y *api.Fano) { y.N = n }))
	}
	for _, m := range []int{math.MinInt, -1 - x.M, -1, 0, 1, x.M - 1, x.M + 1, 2 * x.M, x.M / 2, x.N, x.N + 1, most, 1 << 32, math.MaxInt - 1, math.MaxInt} {
		out = append(out, changed(x, func(y *api.Fano) { y.M = m }), changed(x, func(y *api.Fano) { y.M, y.Low.N = m, m }))
	}
	for _, d := range []int{math.MinInt, -64, -1, 0, 1, 64, math.MaxInt} {
		out = append(out, changed(x, func(y *api.Fano) { y.Low.N += d }), changed(x, func(y *api.Fano) { y.Low.Bits.N += d }), changed(x, func(y *api.Fano) { y.High.N += d }))
	}
	for _, w := range []int{math.MinInt, -1, 0, 1, 2, 3, x.Low.Width - 1, x.Low.Width + 1, 2 * x.Low.Width, 63, 64, 65, math.MaxInt} {
		out = append(out, changed(x, func(y *api.Fano) { y.Low.Width = w }))
	}
	return out
}

// otherRows answers values like x of which Low or High is another as a whole.
func otherRows(x api.Fano) []api.Fano {
	low, high, w := listed(x.Low.Bits), listed(x.High), x.Low.Width
	none, full := make([]bool, w), slices.Repeat([]bool{true}, w)
	out := []api.Fano{
		changed(x, func(y *api.Fano) { y.Low = api.Ints{} }), changed(x, func(y *api.Fano) { y.Low = api.Ints{Width: 1} }), changed(x, func(y *api.Fano) { y.Low = api.Ints{Width: 2} }),
		changed(x, func(y *api.Fano) { y.Low = api.Ints{N: x.M, Width: 1, Bits: row(make([]bool, x.M))} }),
		changed(x, func(y *api.Fano) { y.Low.Bits.W = append(y.Low.Bits.W, 0) }), changed(x, func(y *api.Fano) { y.High.W = append(y.High.W, 0) }),
		changed(x, func(y *api.Fano) { y.High = api.Bits{} }), changed(x, func(y *api.Fano) { y.High.W = nil }), changed(x, func(y *api.Fano) { y.Low.Bits.W = nil }),
	}
	for _, l := range [][]bool{low[:max(0, len(low)-w)], low[min(w, len(low)):], append(slices.Clone(low), none...), append(slices.Clone(low), full...), append(slices.Clone(none), low...)} {
		out = append(out, changed(x, func(y *api.Fano) { y.Low.N, y.Low.Bits = len(l)/w, row(l) }))
	}
	for _, l := range [][]bool{high[:len(high)-1], high[1:], append(slices.Clone(high), false), append(slices.Clone(high), true), append([]bool{false}, high...), append([]bool{true}, high...)} {
		out = append(out, changed(x, func(y *api.Fano) { y.High = row(l) }))
	}
	// One bit wider or narrower, with the numbers that such a row would have.
	for _, wide := range []int{w - 1, w + 1} {
		out = append(out, changed(x, func(y *api.Fano) { y.Low.Width, y.Low.Bits = wide, row(make([]bool, max(0, wide*x.Low.N))) }))
	}
	return out
}

// otherBits answers values like x of which one bit of Low or High is another, also one that no row has, or of which two neighbours have changed places. Some of them are Build of another row.
func otherBits(x api.Fano) []api.Fano {
	var out []api.Fano
	for i := range 64 * len(x.Low.Bits.W) {
		out = append(out, changed(x, func(y *api.Fano) { y.Low.Bits.W[i/64] ^= 1 << (i % 64) }))
	}
	for i := range 64 * len(x.High.W) {
		out = append(out, changed(x, func(y *api.Fano) { y.High.W[i/64] ^= 1 << (i % 64) }))
	}
	low, high, w := listed(x.Low.Bits), listed(x.High), x.Low.Width
	for i := range x.Low.N - 1 { // also two places that are then the same, or fall, with High as it was
		at := i * w
		l := slices.Concat(low[:at], low[at+w:at+2*w], low[at:at+w], low[at+2*w:])
		twice := slices.Concat(low[:at], low[at+w:at+2*w], low[at+w:])
		out = append(out, changed(x, func(y *api.Fano) { y.Low.Bits = row(l) }), changed(x, func(y *api.Fano) { y.Low.Bits = row(twice) }))
	}
	for i := range len(high) - 1 {
		l := slices.Clone(high)
		l[i], l[i+1] = l[i+1], l[i]
		out = append(out, changed(x, func(y *api.Fano) { y.High = row(l) }))
	}
	return out
}

// notToBe are values of which none may be.
func notToBe() []api.Fano {
	none := api.Ints{Width: 1}
	nought := row([]bool{false})
	out := []api.Fano{
		{}, {Low: none}, {High: nought}, {Low: api.Ints{Width: 2}, High: nought}, {Low: none, High: row([]bool{true})}, {M: 1, Low: none, High: row([]bool{true, false})},
		{N: -1, Low: none, High: nought}, {N: -1, M: -1, Low: none, High: nought}, {N: -1, Low: none}, {N: -1, M: 1, Low: none, High: row([]bool{true})}, {M: -1, Low: none, High: nought}, {M: -1, Low: none}, {N: 1, M: -1, Low: none, High: nought},
		{N: 1, M: 2, Low: none, High: row([]bool{true, true, false, false})}, {N: 1, M: 2, Low: none, High: row([]bool{true, true, false})},
	}
	for _, b := range wrongRows() {
		out = append(out, api.Fano{N: b.N, Low: none, High: b}, api.Fano{Low: none, High: b}, api.Fano{N: b.N - 1, Low: none, High: b}, api.Fano{N: 1, M: 1, Low: none, High: b},
			api.Fano{N: 100, M: 1, Low: api.Ints{N: 1, Width: 6, Bits: b}, High: row([]bool{false, true, false})},
			api.Fano{N: 4, Low: api.Ints{Width: 1, Bits: b}, High: row(make([]bool, 5))},
			api.Fano{N: 4, Low: api.Ints{N: b.N, Width: 1, Bits: b}, High: row(make([]bool, 5))})
	}
	return out
}

// P9.1 Build, at every edge, of each kind of row.
func TestBuild(t *testing.T) {
	for _, n := range append(lengths(), 8192) {
		for _, l := range kinds(n) {
			b := row(l)
			x, e := fano.Build(b)
			if want := expected(l); e != api.OK || !same(x, want) {
				t.Errorf("Build = %s, %d, want %s", short(x), e, short(want))
			}
			if !sameRow(b, row(l)) {
				t.Errorf("Build changed its %d bits", n)
			}
		}
	}
	for _, l := range longest() {
		x, want := built(t, l), expected(l)
		if !same(x, want) {
			t.Errorf("Build = %s, want %s", short(x), short(want))
		}
	}
}

// P9.1: of all rows of few bits each one.
func TestEachShortRow(t *testing.T) {
	for n := range 13 {
		for v := range 1 << n {
			l := make([]bool, n)
			for i := range l {
				l[i] = v>>i&1 == 1
			}
			x := built(t, l)
			if !same(x, expected(l)) || !fano.Check(x) || !sameRow(fano.Bits(x), row(l)) {
				t.Fatalf("Build of %v = %s, want %s", l, short(x), short(expected(l)))
			}
		}
	}
}

// P9.1: what is built of rows that are written out.
func TestWrittenOut(t *testing.T) {
	for _, c := range []struct {
		l    []bool
		want api.Fano
	}{
		{nil, api.Fano{Low: api.Ints{Width: 1}, High: api.Bits{N: 1, W: []uint64{0}}}},
		{but(1, -1, true), api.Fano{N: 1, Low: api.Ints{Width: 1}, High: api.Bits{N: 2, W: []uint64{0}}}},
		{but(1, 0, true), api.Fano{N: 1, M: 1, Low: api.Ints{Width: 1}, High: api.Bits{N: 3, W: []uint64{1}}}},
		{but(2, 1, true), api.Fano{N: 2, M: 1, Low: api.Ints{N: 1, Width: 1, Bits: api.Bits{N: 1, W: []uint64{1}}}, High: api.Bits{N: 3, W: []uint64{1}}}},
		{but(3, 2, true), api.Fano{N: 3, M: 1, Low: api.Ints{N: 1, Width: 1, Bits: api.Bits{N: 1, W: []uint64{0}}}, High: api.Bits{N: 3, W: []uint64{2}}}},
		{but(64, -1, true), api.Fano{N: 64, Low: api.Ints{Width: 1}, High: api.Bits{N: 65, W: []uint64{0, 0}}}},
		{but(3, -1, false), api.Fano{N: 3, M: 3, Low: api.Ints{Width: 1}, High: api.Bits{N: 7, W: []uint64{0b010101}}}},
		// Places 0, 5, 6 and 18 of 20: w 2, as 20 divided by 4 is 5. Low 0, 1, 2, 2; by fours they are 0, 1, 1, 4, so High has its bits 0, 2, 3 and 7 of 10.
		{listed(api.Bits{N: 20, W: []uint64{1 | 1<<5 | 1<<6 | 1<<18}}), api.Fano{N: 20, M: 4, Low: api.Ints{N: 4, Width: 2, Bits: api.Bits{N: 8, W: []uint64{0b10_10_01_00}}}, High: api.Bits{N: 10, W: []uint64{0b00_1000_1101}}}},
		// The last bit alone of 2^20: w 20, of which Low has all.
		{but(most, most-1, true), api.Fano{N: most, M: 1, Low: api.Ints{N: 1, Width: 20, Bits: api.Bits{N: 20, W: []uint64{most - 1}}}, High: api.Bits{N: 3, W: []uint64{1}}}},
	} {
		if x := built(t, c.l); !same(x, c.want) {
			t.Errorf("Build of %d bits = %s, want %s", len(c.l), short(x), short(c.want))
		}
	}
}

// P9.1: how wide the numbers of Low are, and how many bits High has, where both change.
func TestWidths(t *testing.T) {
	for _, c := range []struct{ n, m, w, high int }{
		{0, 0, 0, 1}, {1025, 0, 0, 1026}, {64, 64, 0, 129}, {64, 33, 0, 98}, {64, 32, 1, 65}, {64, 17, 1, 50}, {64, 16, 2, 33}, {64, 9, 2, 26}, {64, 8, 3, 17}, {64, 1, 6, 3}, {63, 1, 5, 3},
		{127, 1, 6, 3}, {128, 1, 7, 3}, {129, 1, 7, 3}, {1025, 2, 9, 5}, {1023, 2, 8, 6}, {8192, 3, 11, 8}, {most, 1, 20, 3}, {most - 1, 1, 19, 3}, {most, 2, 19, 5}, {most, 3, 18, 8}, {most, most / 4, 2, most/2 + 1}, {most, most/2 - 1, 1, most},
	} {
		for _, l := range [][]bool{firsts(c.n, c.m), lasts(c.n, c.m)} {
			x := built(t, l)
			count, wide := c.m, c.w
			if c.w == 0 {
				count, wide = 0, 1
			}
			if x.N != c.n || x.M != c.m || x.Low.N != count || x.Low.Width != wide || x.Low.Bits.N != c.m*c.w || x.High.N != c.high {
				t.Errorf("Build of %d bits, %d of them 1 = %s, want w %d and %d bits of High", c.n, c.m, short(x), c.w, c.high)
			}
			if got, want := fano.Size(x), c.m*c.w+c.high+64; got != want {
				t.Errorf("Size(%s) = %d, want %d", short(x), got, want)
			}
		}
	}
}

// P9.1: Build of a row that may not be, or whose High had too many bits, is refused.
func TestBuildRefused(t *testing.T) {
	rows := wrongRows()
	for _, l := range tooLong() {
		if x := expected(l); x.High.N <= most {
			t.Fatalf("%s is not too long", short(x))
		}
		rows = append(rows, row(l))
	}
	for _, b := range rows {
		before := api.Bits{N: b.N, W: slices.Clone(b.W)}
		if x, e := fano.Build(b); e != api.ErrArg || !same(x, api.Fano{}) {
			t.Errorf("Build of %d bits in %d words = %s, %d", b.N, len(b.W), short(x), e)
		}
		if !sameRow(b, before) {
			t.Errorf("Build changed %d bits in %d words", b.N, len(b.W))
		}
	}
}

// P9.1 Check, Bits and Size, and P9.3: what is built may be, and its Bits are the row.
func TestWhatIsBuilt(t *testing.T) {
	for _, n := range append(lengths(), 8192) {
		for _, l := range kinds(n) {
			wantBuilt(t, expected(l), l)
			wantBuilt(t, built(t, l), l)
		}
	}
	for _, l := range longest() {
		wantBuilt(t, built(t, l), l)
	}
}

// wantBuilt checks that x is taken for Build of l.
func wantBuilt(t *testing.T, x api.Fano, l []bool) {
	t.Helper()
	before := clone(x)
	if !fano.Check(x) {
		t.Errorf("Check(%s) = false", short(x))
	}
	if b := fano.Bits(x); !sameRow(b, row(l)) {
		t.Errorf("Bits(%s) = %d bits in %d words, not the row", short(x), b.N, len(b.W))
	}
	if got, want := fano.Size(x), x.Low.Bits.N+x.High.N+64; got != want {
		t.Errorf("Size(%s) = %d, want %d", short(x), got, want)
	}
	if !same(x, before) {
		t.Errorf("%s was changed to %s", short(before), short(x))
	}
}

// wantRefused checks that x is taken for a value that may not be: ErrArg, whatever else is wrong, and zeros.
func wantRefused(t *testing.T, x api.Fano) {
	t.Helper()
	before := clone(x)
	if fano.Check(x) {
		t.Errorf("Check(%s) = true", short(x))
	}
	if b := fano.Bits(x); b.N != 0 || len(b.W) != 0 {
		t.Errorf("Bits(%s) = %d bits in %d words", short(x), b.N, len(b.W))
	}
	if n := fano.Size(x); n != 0 {
		t.Errorf("Size(%s) = %d", short(x), n)
	}
	for _, i := range []int{math.MinInt, -1, 0, 1, x.N - 1, x.N, math.MaxInt} {
		if bit, e := fano.Access(x, i); bit || e != api.ErrArg {
			t.Errorf("Access(%s, %d) = %v, %d", short(x), i, bit, e)
		}
		for _, bit := range both {
			if n, e := fano.Rank(x, bit, i); n != 0 || e != api.ErrArg {
				t.Errorf("Rank(%s, %v, %d) = %d, %d", short(x), bit, i, n, e)
			}
			if at, e := fano.Select(x, bit, i); at != 0 || e != api.ErrArg {
				t.Errorf("Select(%s, %v, %d) = %d, %d", short(x), bit, i, at, e)
			}
		}
	}
	if !same(x, before) {
		t.Errorf("%s was changed to %s", short(before), short(x))
	}
}

// P9.1 and P9.2: of a value that may not be there is ErrArg, and zeros.
func TestValuesThatMayNotBe(t *testing.T) {
	for _, x := range notToBe() {
		wantRefused(t, x)
	}
	for _, n := range []int{most + 1, most + 64, 3 * most} { // more bits than a row has, and all else as of such a row
		wantRefused(t, expected(but(n, 5, true)))
		wantRefused(t, expected(every(n, 100)))
	}
	for _, l := range tooLong() {
		wantRefused(t, expected(l))
	}
}

// P9.1 Check: a value with one thing another is Build of another row, or of none.
func TestOneThingAnother(t *testing.T) {
	rows, none := 0, 0
	for _, n := range []int{0, 1, 2, 15, 16, 63, 64, 65, 127, 128, 129, 200} {
		for _, l := range [][]bool{but(n, -1, true), but(n, -1, false), but(n, 0, true), but(n, n-1, true), but(n, n/2, false), mixed(n), half(n), few(n), every(n, 7), lasts(n, n/3), firsts(n, n/5)} {
			x := expected(l)
			for _, y := range slices.Concat(otherNumbers(x), otherRows(x), otherBits(x)) {
				if m, ok := read(y); ok {
					rows++
					wantBuilt(t, y, m)
				} else {
					none++
					wantRefused(t, y)
				}
			}
		}
	}
	if rows < 1000 || none < 1000 {
		t.Errorf("%d values are Build of a row, %d are not: both should be many", rows, none)
	}
}

// P9.1: places that do not rise, that stand twice, or that the row does not have, though all rows are as long as they should be.
func TestPlaces(t *testing.T) {
	for _, c := range []struct {
		n    int
		at   []int
		want bool
	}{
		{20, []int{4, 5, 6, 7}, true}, {20, []int{5, 4, 6, 7}, false}, {20, []int{4, 6, 5, 7}, false}, {20, []int{4, 5, 7, 6}, false}, {20, []int{4, 4, 6, 7}, false}, {20, []int{4, 5, 7, 7}, false}, {20, []int{5, 5, 5, 5}, false},
		{20, []int{0, 1, 18, 19}, true}, {20, []int{0, 1, 19, 18}, false}, {20, []int{0, 1, 18, 20}, false}, {20, []int{0, 1, 18, 23}, false}, {20, []int{20, 21, 22, 23}, false},
		{100, []int{99}, true}, {100, []int{100}, false}, {100, []int{127}, false}, {127, []int{126}, true}, {127, []int{127}, false}, {128, []int{127}, true}, {128, []int{128}, false}, {128, []int{255}, false},
		{3, []int{0, 1, 2}, true}, {3, []int{0, 1, 3}, false}, {3, []int{0, 0, 2}, false}, {3, []int{1, 2, 3}, false}, {3, []int{3, 3, 3}, false}, {1, []int{0}, true}, {1, []int{1}, false},
		{64, []int{62, 63}, true}, {64, []int{63, 62}, false}, {64, []int{63, 63}, false}, {64, []int{63, 64}, false}, {64, []int{0, 64}, false},
		{most, []int{most - 2, most - 1}, true}, {most, []int{most - 1, most}, false}, {most - 1, []int{most - 3, most - 2}, true}, {most - 1, []int{most - 3, most - 1}, false},
	} {
		x := told(c.n, c.at)
		if got := fano.Check(x); got != c.want {
			t.Errorf("Check of the places %v of %d bits, %s = %v", c.at, c.n, short(x), got)
		}
		if !c.want {
			wantRefused(t, x)
		}
	}
}

// P9.1: every number of Low and every bit of High of a long row is looked at.
func TestCheckOfEachPlace(t *testing.T) {
	x := built(t, slices.Repeat([]bool{false, false, true, true, true, false, false, false}, most/8)) // w 1: places 2 and 3, 4 of each eight
	if x.Low.Width != 1 || !fano.Check(x) {
		t.Fatalf("%s is another row", short(x))
	}
	for i := 1; i < x.Low.N; i += 3 * 4999 { // place 3 of eight becomes 2
		x.Low.Bits.W[i/64] ^= 1 << (i % 64)
		if fano.Check(x) {
			t.Errorf("%s with number %d of Low another may be", short(x), i)
		}
		x.Low.Bits.W[i/64] ^= 1 << (i % 64)
	}
	for i := 0; i < x.High.N; i += 4999 {
		x.High.W[i/64] ^= 1 << (i % 64)
		if fano.Check(x) {
			t.Errorf("%s with bit %d of High another may be", short(x), i)
		}
		x.High.W[i/64] ^= 1 << (i % 64)
	}
	if !fano.Check(x) {
		t.Error("with its bits as they were it may be")
	}
}

// P9.1: the row of no bits, its lists nil or empty.
func TestNoBits(t *testing.T) {
	want := api.Fano{Low: api.Ints{Width: 1}, High: api.Bits{N: 1, W: []uint64{0}}}
	for _, b := range []api.Bits{{}, {W: []uint64{}}} {
		if x, e := fano.Build(b); e != api.OK || !same(x, want) {
			t.Errorf("Build of no bits = %s, %d", short(x), e)
		}
	}
	empty := clone(want)
	empty.Low.Bits.W = []uint64{}
	for _, x := range []api.Fano{want, empty} {
		wantBuilt(t, x, nil)
		if n := fano.Size(x); n != 65 {
			t.Errorf("Size of no bits = %d", n)
		}
		for _, bit := range both {
			if n, e := fano.Rank(x, bit, 0); n != 0 || e != api.OK {
				t.Errorf("Rank of no bits = %d, %d", n, e)
			}
		}
	}
}

// asked are the places, or counts, at which rows of n bits are asked: all of a short one; of others those at the ends, in the middle, and at, below and above some that are given.
func asked(n int, given []int) []int {
	var l []int
	if n <= 1100 {
		for i := range n + 1 {
			l = append(l, i)
		}
		return l
	}
	at := []int{0, 64, n / 2, n - 64, n}
	for i := 0; i < len(given); i += max(1, len(given)/5) {
		at = append(at, given[i])
	}
	for _, i := range at {
		for d := -1; d <= 1; d++ {
			if i+d >= 0 && i+d <= n {
				l = append(l, i+d)
			}
		}
	}
	return l
}

// questions answers rows of every kind that are asked at the places that asked answers.
func questions() [][]bool {
	var rows [][]bool
	for _, n := range lengths() {
		rows = append(rows, kinds(n)...)
	}
	rows = append(rows, mixed(8192), half(8192), few(8192), every(8192, 500))
	return append(rows, but(most-1, -1, true), but(most/2-1, -1, false), but(most, most/2, true), every(most, 3000), lasts(most, most/2-1))
}

// P9.2 Access.
func TestAccess(t *testing.T) {
	for _, l := range questions() {
		n := len(l)
		x := built(t, l)
		for _, i := range asked(n, places(l, true)) {
			if i == n {
				continue
			}
			if bit, e := fano.Access(x, i); bit != l[i] || e != api.OK {
				t.Fatalf("Access(%s, %d) = %v, %d, want %v", short(x), i, bit, e, l[i])
			}
		}
		for _, i := range append(far(), n, n+1, n+64) {
			if bit, e := fano.Access(x, i); bit || e != api.ErrRange {
				t.Errorf("Access(%s, %d) = %v, %d, want ErrRange", short(x), i, bit, e)
			}
		}
	}
}

// P9.2 Rank.
func TestRank(t *testing.T) {
	for _, l := range questions() {
		n := len(l)
		x := built(t, l)
		before := clone(x)
		for _, bit := range both {
			want := ahead(l, bit)
			for _, i := range asked(n, places(l, true)) {
				if got, e := fano.Rank(x, bit, i); got != want[i] || e != api.OK {
					t.Fatalf("Rank(%s, %v, %d) = %d, %d, want %d", short(x), bit, i, got, e, want[i])
				}
			}
			for _, i := range append(far(), n+1, n+2, n+64) {
				if got, e := fano.Rank(x, bit, i); got != 0 || e != api.ErrRange {
					t.Errorf("Rank(%s, %v, %d) = %d, %d, want ErrRange", short(x), bit, i, got, e)
				}
			}
		}
		if !same(x, before) {
			t.Errorf("Rank changed %s", short(before))
		}
	}
}

// P9.2 Select.
func TestSelect(t *testing.T) {
	for _, l := range questions() {
		x := built(t, l)
		before := clone(x)
		for _, bit := range both {
			want := places(l, bit)
			m := len(want)
			for _, k := range asked(m, ahead(l, bit)) {
				if k == m {
					continue
				}
				if at, e := fano.Select(x, bit, k); at != want[k] || e != api.OK {
					t.Fatalf("Select(%s, %v, %d) = %d, %d, want %d", short(x), bit, k, at, e, want[k])
				}
			}
			for _, k := range append(far(), m, m+1, m+64, len(l)) {
				if at, e := fano.Select(x, bit, k); at != 0 || e != api.ErrRange {
					t.Errorf("Select(%s, %v, %d) = %d, %d, want ErrRange", short(x), bit, k, at, e)
				}
			}
		}
		if !same(x, before) {
			t.Errorf("Select changed %s", short(before))
		}
	}
}

// P9.2: Rank and Select lead to one another: ahead of the place that Select answers there are k, and from each bit both lead back to it.
func TestRankAndSelect(t *testing.T) {
	for _, n := range lengths() {
		for _, l := range kinds(n) {
			x := built(t, l)
			for i := range n {
				bit, _ := fano.Access(x, i)
				k, _ := fano.Rank(x, bit, i)
				if at, e := fano.Select(x, bit, k); at != i || e != api.OK {
					t.Fatalf("%s: Select of Rank of %v at %d = %d, %d", short(x), bit, i, at, e)
				}
			}
			total := 0
			for _, bit := range both {
				m, _ := fano.Rank(x, bit, n)
				total += m
				for k := range m {
					at, _ := fano.Select(x, bit, k)
					got, _ := fano.Access(x, at)
					if r, e := fano.Rank(x, bit, at); r != k || e != api.OK || got != bit {
						t.Fatalf("%s: Rank of Select of %v with %d ahead = %d, %d", short(x), bit, k, r, e)
					}
				}
			}
			if total != n {
				t.Fatalf("%s: %d bits are 0 or 1", short(x), total)
			}
		}
	}
}

// R3: what is answered is memory of its own, also apart from what it was made of, and no two lists of one answer share any.
func TestSharesNothing(t *testing.T) {
	for _, n := range lengths() {
		for _, l := range kinds(n) {
			b := row(l)
			x, _ := fano.Build(b)
			y, _ := fano.Build(b)
			c, d := fano.Bits(x), fano.Bits(x)
			wantAlone(t, n, [][]uint64{b.W, x.Low.Bits.W, x.High.W, y.Low.Bits.W, y.High.W, c.W, d.W})
		}
	}
}

// wantAlone checks that none of the lists is changed when another is, with all the room that they have.
func wantAlone(t *testing.T, n int, lists [][]uint64) {
	t.Helper()
	for i := range lists {
		lists[i] = lists[i][:cap(lists[i])]
	}
	for i, l := range lists {
		var before [][]uint64
		for _, m := range lists {
			before = append(before, slices.Clone(m))
		}
		for j := range l {
			l[j] = ^l[j]
		}
		for k, m := range lists {
			if k != i && !slices.Equal(m, before[k]) {
				t.Errorf("%d bits: list %d shares its memory with list %d", n, i, k)
			}
		}
		copy(l, before[i])
	}
}

// R7: what stands in the room behind the end of a list is neither read nor written to.
func TestRoomBehindTheEnd(t *testing.T) {
	for _, n := range []int{0, 1, 15, 63, 64, 65, 128, 129} {
		for _, l := range [][]bool{mixed(n), half(n), few(n), but(n, n-1, true)} {
			want := expected(l)
			b := row(l)
			b.W = roomy(b.W)
			if x, e := fano.Build(b); e != api.OK || !same(x, want) {
				t.Errorf("Build of %d bits with room behind = %s, %d", n, short(x), e)
			}
			x := clone(want)
			x.Low.Bits.W, x.High.W = roomy(x.Low.Bits.W), roomy(x.High.W)
			wantBuilt(t, x, l)
			if got, e := fano.Rank(x, true, n); got != ahead(l, true)[n] || e != api.OK {
				t.Errorf("Rank(%s, true, %d) = %d, %d", short(x), n, got, e)
			}
			for _, w := range [][]uint64{b.W, x.Low.Bits.W, x.High.W} {
				if !slices.Equal(w[len(w):len(w)+2], []uint64{all, all}) {
					t.Errorf("the room behind %d bits was written to", n)
				}
			}
		}
	}
}

// roomy answers l with words of ones in the room behind its end.
func roomy(l []uint64) []uint64 {
	return slices.Concat(l, []uint64{all, all})[:len(l)]
}

// The chapter's example: of 100 bits bit 70 alone has w 6, Low 6, High 0 1 0.
func TestExample(t *testing.T) {
	x, e := fano.Build(api.Bits{N: 100, W: []uint64{0, 1 << 6}})
	want := api.Fano{N: 100, M: 1, Low: api.Ints{N: 1, Width: 6, Bits: api.Bits{N: 6, W: []uint64{6}}}, High: api.Bits{N: 3, W: []uint64{2}}}
	if e != api.OK || !same(x, want) {
		t.Errorf("Build of bit 70 of 100 = %s, %d, want %s", short(x), e, short(want))
	}
	if n := fano.Size(x); n != 73 {
		t.Errorf("Size = %d, want 73", n)
	}
}
