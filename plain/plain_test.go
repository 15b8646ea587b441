package plain_test

import (
	"fmt"
	"math"
	"slices"
	"testing"

	"haystack/api"
	"haystack/plain"
)

const (
	all  = math.MaxUint64
	most = 1 << 20 // MaxBits, written out as the document does
)

// both are the two bits that are counted and sought.
var both = []bool{false, true}

// mixed answers n bits of a fixed row that has runs and changes.
func mixed(n int) []bool {
	l := make([]bool, n)
	x := uint64(88172645463325252)
	for i := range l {
		x ^= x << 13
		x ^= x >> 7
		x ^= x << 17
		l[i] = x>>40&1 == 1
	}
	return l
}

// runs answers n bits that change only now and then: words and groups that are full of either bit, and groups that differ.
func runs(n int) []bool {
	l := make([]bool, n)
	for i := range l {
		l[i] = i/700%2 == 1 || i/64%5 == 2
	}
	return l
}

// but answers n bits, all of them unlike x but the one at a place, if there is such a place.
func but(n int, place int, x bool) []bool {
	l := slices.Repeat([]bool{!x}, n)
	if place >= 0 && place < n {
		l[place] = x
	}
	return l
}

// kinds answers rows of n bits: all 0, all 1, mixed, in runs, and with one bit unlike the others, the first, the last, or one in the middle.
func kinds(n int) [][]bool {
	l := [][]bool{but(n, -1, true), but(n, -1, false), mixed(n), runs(n)}
	for _, x := range both {
		l = append(l, but(n, 0, x), but(n, n/2, x), but(n, n-1, x))
	}
	return l
}

// lengths are how many bits the short rows have: at the edges of words and of 512 bits.
func lengths() []int {
	return []int{0, 1, 2, 63, 64, 65, 127, 128, 129, 447, 448, 449, 511, 512, 513, 575, 576, 577, 1023, 1024, 1025, 1535, 1536, 1537}
}

// great are how many bits the longest rows have.
func great() []int {
	return []int{most - 513, most - 512, most - 511, most - 65, most - 64, most - 63, most - 1, most}
}

// far are places and counts far from every row.
func far() []int {
	return []int{math.MinInt, math.MinInt + 1, math.MinInt + 512, math.MinInt32, -most, -513, -512, -511, -65, -64, -63, -2, -1, most + 1, 2 * most, math.MaxInt32, 1 << 32, 1<<32 + 1, math.MaxInt - 512, math.MaxInt - 64, math.MaxInt - 63, math.MaxInt - 1, math.MaxInt}
}

// row answers the row of the bits l.
func row(l []bool) api.Bits {
	b := api.Bits{N: len(l)}
	for i, x := range l {
		if i%64 == 0 {
			b.W = append(b.W, 0)
		}
		if x {
			b.W[i/64] += 1 << (i % 64)
		}
	}
	return b
}

// ahead answers, for each place of l and for its end, how many of the bits ahead of it are x.
func ahead(l []bool, x bool) []int {
	counts := make([]int, len(l)+1)
	for i := range l {
		counts[i+1] = counts[i]
		if l[i] == x {
			counts[i+1]++
		}
	}
	return counts
}

// places answers the places of the bits of l that are x.
func places(l []bool, x bool) []int {
	var at []int
	for i := range l {
		if l[i] == x {
			at = append(at, i)
		}
	}
	return at
}

// expected answers the row of l with its counts, by what api says of Super[i] and Sub[j], without the package that is tested.
func expected(l []bool) api.Plain {
	ones := ahead(l, true)
	x := api.Plain{Bits: row(l)}
	for i := 0; i <= len(l); i += 512 {
		x.Super = append(x.Super, ones[i])
	}
	for j := 0; j < len(l); j += 64 {
		x.Sub = append(x.Sub, ones[j]-ones[j/512*512])
	}
	return x
}

func sameRow(a, b api.Bits) bool {
	return a.N == b.N && slices.Equal(a.W, b.W)
}

func same(a, b api.Plain) bool {
	return sameRow(a.Bits, b.Bits) && slices.Equal(a.Super, b.Super) && slices.Equal(a.Sub, b.Sub)
}

func clone(x api.Plain) api.Plain {
	return api.Plain{Bits: api.Bits{N: x.Bits.N, W: slices.Clone(x.Bits.W)}, Super: slices.Clone(x.Super), Sub: slices.Clone(x.Sub)}
}

// whole answers x with all the room that its lists have.
func whole(x api.Plain) api.Plain {
	x.Bits.W = x.Bits.W[:cap(x.Bits.W)]
	x.Super = x.Super[:cap(x.Super)]
	x.Sub = x.Sub[:cap(x.Sub)]
	return x
}

// short tells a value in few words: the greatest ones would fill the screen.
func short(x api.Plain) string {
	return fmt.Sprintf("{%d bits, %d words %#x.., %d of Super %v.., %d of Sub %v..}", x.Bits.N,
		len(x.Bits.W), x.Bits.W[:min(2, len(x.Bits.W))], len(x.Super), x.Super[:min(4, len(x.Super))], len(x.Sub), x.Sub[:min(10, len(x.Sub))])
}

// built answers Build of the bits l.
func built(t *testing.T, l []bool) api.Plain {
	t.Helper()
	x, e := plain.Build(row(l))
	if e != api.OK {
		t.Fatalf("Build of %d bits: %d", len(l), e)
	}
	return x
}

// wrongRows are rows of bits that may not be.
func wrongRows() []api.Bits {
	l := []api.Bits{
		{N: math.MinInt}, {N: math.MinInt + 511}, {N: -1}, {N: -1, W: []uint64{0}}, {N: -64}, {N: -64, W: []uint64{0}}, {N: -512}, {N: -513, W: []uint64{1}},
		{N: most + 1, W: make([]uint64, most/64)}, {N: most + 1, W: make([]uint64, most/64+1)}, {N: most + 64, W: make([]uint64, most/64+1)}, {N: most + 512, W: make([]uint64, most/64+8)},
		{N: 1 << 32}, {N: math.MaxInt}, {N: math.MaxInt, W: []uint64{1, 2}}, {N: math.MaxInt - 62}, {N: math.MaxInt - 511},
		{N: 0, W: []uint64{0}}, {N: 0, W: []uint64{5}}, {N: 1}, {N: 1, W: []uint64{1, 0}}, {N: 63}, {N: 64}, {N: 64, W: []uint64{3, 0}},
		{N: 65, W: []uint64{9}}, {N: 65, W: []uint64{9, 1, 0}}, {N: 512, W: make([]uint64, 7)}, {N: 512, W: make([]uint64, 9)}, {N: 513, W: make([]uint64, 8)}, {N: 513, W: make([]uint64, 10)},
		{N: most, W: make([]uint64, most/64-1)}, {N: most, W: make([]uint64, most/64+1)}, {N: most - 1, W: slices.Repeat([]uint64{all}, most/64)},
	}
	for _, n := range []int{1, 2, 32, 62, 63} { // one bit of the last word from N on
		for _, place := range []int{n, 63} {
			l = append(l, api.Bits{N: n, W: []uint64{1 << place}}, api.Bits{N: 64 + n, W: []uint64{all, 1<<place | 1}}, api.Bits{N: 512 + n, W: []uint64{0, 1, 2, 3, 4, 5, 6, 7, 1 << place}})
		}
	}
	return l
}

// changed answers x with something changed by f, in lists of their own.
func changed(x api.Plain, f func(x *api.Plain)) api.Plain {
	y := clone(x)
	f(&y)
	return y
}

// wrongCounts answers l with counts of which one is another, or of which there is one too few or too many.
func wrongCounts(l []int) [][]int {
	var out [][]int
	for i, v := range l {
		for _, other := range []int{v - 1, v + 1, -v - 1, v + 256, v + 1<<16, v + 1<<32, math.MinInt, math.MaxInt} {
			c := slices.Clone(l)
			c[i] = other
			out = append(out, c)
		}
		out = append(out, slices.Delete(slices.Clone(l), i, i+1), slices.Insert(slices.Clone(l), i, v))
	}
	last := 0
	if len(l) > 0 {
		last = l[len(l)-1]
	}
	return append(out, append(slices.Clone(l), 0), append(slices.Clone(l), last), append(slices.Clone(l), math.MaxInt))
}

// spoilt answers values like Build of l that may not be.
func spoilt(l []bool) []api.Plain {
	x := expected(l)
	var out []api.Plain
	for _, c := range wrongCounts(x.Super) {
		out = append(out, changed(x, func(y *api.Plain) { y.Super = c }))
	}
	for _, c := range wrongCounts(x.Sub) {
		out = append(out, changed(x, func(y *api.Plain) { y.Sub = c }))
	}
	out = append(out,
		changed(x, func(y *api.Plain) { y.Super = nil }),
		changed(x, func(y *api.Plain) { y.Bits.N = -1 }),
		changed(x, func(y *api.Plain) { y.Bits.N = math.MinInt }),
		changed(x, func(y *api.Plain) { y.Bits.N = math.MaxInt }),
		changed(x, func(y *api.Plain) { y.Bits.N += 64 }),
		changed(x, func(y *api.Plain) { y.Bits.N += 512 }),
		changed(x, func(y *api.Plain) { y.Bits.W = append(y.Bits.W, 0) }),
		changed(x, func(y *api.Plain) { y.Bits.N, y.Bits.W = y.Bits.N+64, append(y.Bits.W, 0) }),
		changed(x, func(y *api.Plain) { y.Bits.W, y.Sub = append(y.Bits.W, 0), append(y.Sub, 0) }),
		changed(x, func(y *api.Plain) { y.Bits.N = 512 * len(y.Super) }),
	)
	if n := len(l); n > 0 {
		out = append(out,
			changed(x, func(y *api.Plain) { y.Sub = nil }),
			changed(x, func(y *api.Plain) { y.Bits = api.Bits{} }),
			changed(x, func(y *api.Plain) { y.Bits.W = nil }),
			changed(x, func(y *api.Plain) { y.Bits.W = y.Bits.W[1:] }))
		if n%64 > 0 {
			out = append(out, changed(x, func(y *api.Plain) { y.Bits.W[n/64] |= 1 << (n % 64) }), changed(x, func(y *api.Plain) { y.Bits.W[n/64] |= 1 << 63 }))
		}
		if n > 64 { // a bit that a count tells of is another
			out = append(out, changed(x, func(y *api.Plain) { y.Bits.W[0] ^= 1 }), changed(x, func(y *api.Plain) { y.Bits.W[0] ^= 1 << 63 }))
		}
		if n > 512 { // the sums stay right
			out = append(out, changed(x, func(y *api.Plain) {
				y.Super[1]++
				for j := 8; j < min(16, len(y.Sub)); j++ {
					y.Sub[j]--
				}
			}))
		}
	}
	return out
}

// notToBe are values that may not be: that no call made, of rows that may not be, and with something spoilt.
func notToBe() []api.Plain {
	out := []api.Plain{{}, {Super: []int{}, Sub: []int{}}, {Super: []int{1}}, {Super: []int{-1}}, {Super: []int{0, 0}}, {Super: []int{0}, Sub: []int{0}}, {Sub: []int{0}}}
	for _, b := range wrongRows() {
		out = append(out, api.Plain{Bits: b}, api.Plain{Bits: b, Super: []int{0}}, api.Plain{Bits: b, Super: []int{0}, Sub: make([]int, len(b.W))})
		if b.N >= 0 && b.N <= 2*most { // as many counts as N bits, or as so many words, would have
			out = append(out, api.Plain{Bits: b, Super: make([]int, b.N/512+1), Sub: make([]int, (b.N+63)/64)}, api.Plain{Bits: b, Super: make([]int, b.N/512+1), Sub: make([]int, len(b.W))})
		}
	}
	for _, n := range []int{0, 1, 63, 64, 65, 511, 512, 513, 1023, 1024, 1025} {
		for _, l := range [][]bool{but(n, -1, true), but(n, -1, false), mixed(n)} {
			out = append(out, spoilt(l)...)
		}
	}
	return out
}

// P7.1 Build, at every edge, with counts of each kind of row.
func TestBuild(t *testing.T) {
	for _, n := range append(lengths(), 8192) {
		for _, l := range kinds(n) {
			b := row(l)
			x, e := plain.Build(b)
			if want := expected(l); e != api.OK || !same(x, want) {
				t.Errorf("Build = %s, %d, want %s", short(x), e, short(want))
			}
			if !sameRow(b, row(l)) {
				t.Errorf("Build changed its %d bits", n)
			}
		}
	}
	for _, n := range great() {
		for _, l := range [][]bool{but(n, -1, false), mixed(n)} {
			if x, want := built(t, l), expected(l); !same(x, want) {
				t.Errorf("Build = %s, want %s", short(x), short(want))
			}
		}
	}
}

// P7.1: how many numbers there are, written out.
func TestHowManyCounts(t *testing.T) {
	for _, c := range []struct{ n, super, sub int }{
		{0, 1, 0}, {1, 1, 1}, {63, 1, 1}, {64, 1, 1}, {65, 1, 2}, {511, 1, 8}, {512, 2, 8}, {513, 2, 9}, {1023, 2, 16}, {1024, 3, 16}, {1025, 3, 17}, {most - 1, 2048, 16384}, {most, 2049, 16384},
	} {
		if x := built(t, mixed(c.n)); len(x.Super) != c.super || len(x.Sub) != c.sub {
			t.Errorf("Build of %d bits has %d of Super and %d of Sub, want %d and %d", c.n, len(x.Super), len(x.Sub), c.super, c.sub)
		}
	}
	x := built(t, but(1025, -1, false))
	if want := []int{0, 512, 1024}; !slices.Equal(x.Super, want) {
		t.Errorf("Super of 1025 ones = %v, want %v", x.Super, want)
	}
	if want := []int{0, 64, 128, 192, 256, 320, 384, 448, 0, 64, 128, 192, 256, 320, 384, 448, 0}; !slices.Equal(x.Sub, want) {
		t.Errorf("Sub of 1025 ones = %v, want %v", x.Sub, want)
	}
}

// P7.1: Build of a row that may not be is refused.
func TestBuildRefused(t *testing.T) {
	for _, b := range wrongRows() {
		before := api.Bits{N: b.N, W: slices.Clone(b.W)}
		if x, e := plain.Build(b); e != api.ErrArg || !same(x, api.Plain{}) {
			t.Errorf("Build of %d bits in %d words = %s, %d", b.N, len(b.W), short(x), e)
		}
		if !sameRow(b, before) {
			t.Errorf("Build changed %d bits in %d words", b.N, len(b.W))
		}
	}
}

// P7.1 Check, Bits and Size, and P7.3: what is built may be, and its Bits are the row.
func TestWhatIsBuilt(t *testing.T) {
	for _, n := range append(lengths(), 8192) {
		for _, l := range kinds(n) {
			wantBuilt(t, l)
		}
	}
	for _, n := range great() {
		wantBuilt(t, mixed(n))
	}
}

func wantBuilt(t *testing.T, l []bool) {
	t.Helper()
	n := len(l)
	for _, x := range []api.Plain{built(t, l), expected(l)} {
		before := clone(x)
		if !plain.Check(x) {
			t.Errorf("Check(%s) = false", short(x))
		}
		if b := plain.Bits(x); !sameRow(b, row(l)) {
			t.Errorf("Bits(%s) = %d bits in %d words, not the row", short(x), b.N, len(b.W))
		}
		if got, want := plain.Size(x), n+32*(n/512+1)+16*((n+63)/64); got != want {
			t.Errorf("Size of %d bits = %d, want %d", n, got, want)
		}
		if !same(x, before) {
			t.Errorf("%s was changed to %s", short(before), short(x))
		}
	}
}

// P7.1 Size, written out.
func TestSize(t *testing.T) {
	for _, c := range [][2]int{{0, 32}, {1, 49}, {63, 111}, {64, 112}, {65, 129}, {511, 671}, {512, 704}, {513, 721}, {1024, 1376}, {1025, 1393}, {most, most + 32*2049 + 16*16384}} {
		if got := plain.Size(built(t, mixed(c[0]))); got != c[1] {
			t.Errorf("Size of %d bits = %d, want %d", c[0], got, c[1])
		}
	}
}

// P7.1 Check: a value is held against Build of its own Bits, whatever row these are, and whichever list is nil.
func TestCheckOfOtherBits(t *testing.T) {
	for _, n := range []int{1, 64, 65, 511, 513, 1023, 1025} { // no count is of the last word, where N is no multiple of 512
		x := built(t, mixed(n))
		x.Bits.W[(n-1)/64] ^= 1 << ((n - 1) % 64)
		l := mixed(n)
		l[n-1] = !l[n-1]
		if !plain.Check(x) || !same(x, expected(l)) {
			t.Errorf("%d bits, the last one another: Check = false", n)
		}
	}
	for _, n := range []int{512, 1024} {
		x := built(t, mixed(n))
		x.Bits.W[(n-1)/64] ^= 1 << ((n - 1) % 64)
		if plain.Check(x) {
			t.Errorf("%d bits, the last one another: Check = true, but the last of Super tells of it", n)
		}
	}
	for _, x := range []api.Plain{{Super: []int{0}}, {Bits: api.Bits{W: []uint64{}}, Super: []int{0}, Sub: []int{}}} {
		if !plain.Check(x) || plain.Size(x) != 32 || plain.Bits(x).N != 0 {
			t.Error("the row of no bits may be, its lists nil or empty")
		}
	}
	if x, e := plain.Build(api.Bits{W: []uint64{}}); e != api.OK || !same(x, api.Plain{Super: []int{0}}) {
		t.Errorf("Build of no bits = %s, %d", short(x), e)
	}
}

// P7.1 and P7.2: of a value that may not be there is ErrArg, whatever else is wrong, and zeros.
func TestValuesThatMayNotBe(t *testing.T) {
	for _, x := range notToBe() {
		before := clone(x)
		if plain.Check(x) {
			t.Errorf("Check(%s) = true", short(x))
		}
		if b := plain.Bits(x); b.N != 0 || len(b.W) != 0 {
			t.Errorf("Bits(%s) = %d bits in %d words", short(x), b.N, len(b.W))
		}
		if n := plain.Size(x); n != 0 {
			t.Errorf("Size(%s) = %d", short(x), n)
		}
		for _, i := range []int{math.MinInt, -1, 0, 1, x.Bits.N - 1, x.Bits.N, math.MaxInt} {
			if bit, e := plain.Access(x, i); bit || e != api.ErrArg {
				t.Errorf("Access(%s, %d) = %v, %d", short(x), i, bit, e)
			}
			for _, bit := range both {
				if n, e := plain.Rank(x, bit, i); n != 0 || e != api.ErrArg {
					t.Errorf("Rank(%s, %v, %d) = %d, %d", short(x), bit, i, n, e)
				}
				if at, e := plain.Select(x, bit, i); at != 0 || e != api.ErrArg {
					t.Errorf("Select(%s, %v, %d) = %d, %d", short(x), bit, i, at, e)
				}
			}
		}
		if !same(x, before) {
			t.Errorf("%s was changed to %s", short(before), short(x))
		}
	}
}

// P7.1: every single count of a long row is held against the bits.
func TestCheckOfEachCount(t *testing.T) {
	x := built(t, mixed(most))
	for i := 0; i < len(x.Super); i += 31 {
		wantRefused(t, x, &x.Super[i])
	}
	for j := 0; j < len(x.Sub); j += 127 {
		wantRefused(t, x, &x.Sub[j])
	}
	wantRefused(t, x, &x.Super[len(x.Super)-1])
	wantRefused(t, x, &x.Sub[len(x.Sub)-1])
	if !plain.Check(x) {
		t.Error("with its counts as they were it may be")
	}
}

// wantRefused checks that x may not be once one of its numbers is another; it is put back behind.
func wantRefused(t *testing.T, x api.Plain, number *int) {
	t.Helper()
	for _, d := range []int{-1, 1} {
		*number += d
		if plain.Check(x) {
			t.Errorf("%s with a count that is %d may be", short(x), *number)
		}
		*number -= d
	}
}

// asked are the places at which rows of n bits are asked: all of a short one; of others those at the edges of words and of 512 bits, one below and one above.
func asked(n int) []int {
	var l []int
	if n <= 8192 {
		for i := range n + 1 {
			l = append(l, i)
		}
		return l
	}
	for _, at := range []int{0, 64, 128, 448, 512, 576, 1024, n / 4 / 512 * 512, n/2/512*512 + 64, n / 1024 * 512, n/512*512 - 512, n / 512 * 512, n / 64 * 64, n} {
		for d := range 3 {
			if i := at + d - 1; i >= 0 && i <= n {
				l = append(l, i)
			}
		}
	}
	return l
}

// questions answers rows of every kind that are asked at the places that asked answers.
func questions() [][]bool {
	var rows [][]bool
	for _, n := range lengths() {
		rows = append(rows, kinds(n)...)
	}
	rows = append(rows, mixed(8192), runs(8192))
	for _, n := range great() {
		rows = append(rows, mixed(n), runs(n), but(n, -1, true), but(n, -1, false))
	}
	return rows
}

// P7.2 Access.
func TestAccess(t *testing.T) {
	for _, l := range questions() {
		n := len(l)
		x := built(t, l)
		for _, i := range asked(n) {
			if i == n {
				continue
			}
			if bit, e := plain.Access(x, i); bit != l[i] || e != api.OK {
				t.Fatalf("Access(%s, %d) = %v, %d, want %v", short(x), i, bit, e, l[i])
			}
		}
		for _, i := range append(far(), n, n+1, n+63, n+64, n+512) {
			if bit, e := plain.Access(x, i); bit || e != api.ErrRange {
				t.Errorf("Access(%s, %d) = %v, %d, want ErrRange", short(x), i, bit, e)
			}
		}
	}
}

// P7.2 Rank.
func TestRank(t *testing.T) {
	for _, l := range questions() {
		n := len(l)
		x := built(t, l)
		before := clone(x)
		for _, bit := range both {
			want := ahead(l, bit)
			for _, i := range asked(n) {
				if got, e := plain.Rank(x, bit, i); got != want[i] || e != api.OK {
					t.Fatalf("Rank(%s, %v, %d) = %d, %d, want %d", short(x), bit, i, got, e, want[i])
				}
			}
			for _, i := range append(far(), n+1, n+2, n+63, n+64, n+512) {
				if got, e := plain.Rank(x, bit, i); got != 0 || e != api.ErrRange {
					t.Errorf("Rank(%s, %v, %d) = %d, %d, want ErrRange", short(x), bit, i, got, e)
				}
			}
		}
		if !same(x, before) {
			t.Errorf("Rank changed %s", short(before))
		}
	}
}

// P7.2 Select.
func TestSelect(t *testing.T) {
	for _, l := range questions() {
		x := built(t, l)
		before := clone(x)
		for _, bit := range both {
			want := places(l, bit)
			m := len(want)
			for _, k := range asked(m) {
				if k == m {
					continue
				}
				if at, e := plain.Select(x, bit, k); at != want[k] || e != api.OK {
					t.Fatalf("Select(%s, %v, %d) = %d, %d, want %d", short(x), bit, k, at, e, want[k])
				}
			}
			for _, k := range append(far(), m, m+1, m+63, m+64, m+512, len(l)) {
				if at, e := plain.Select(x, bit, k); at != 0 || e != api.ErrRange {
					t.Errorf("Select(%s, %v, %d) = %d, %d, want ErrRange", short(x), bit, k, at, e)
				}
			}
		}
		if !same(x, before) {
			t.Errorf("Select changed %s", short(before))
		}
	}
}

// P7.2: Rank and Select lead to one another: ahead of the place that Select answers there are k, and from each bit both lead back to it.
func TestRankAndSelect(t *testing.T) {
	for _, n := range lengths() {
		for _, l := range kinds(n) {
			x := built(t, l)
			for i := range n {
				bit, _ := plain.Access(x, i)
				k, _ := plain.Rank(x, bit, i)
				if at, e := plain.Select(x, bit, k); at != i || e != api.OK {
					t.Fatalf("%s: Select of Rank of %v at %d = %d, %d", short(x), bit, i, at, e)
				}
			}
			total := 0
			for _, bit := range both {
				m, _ := plain.Rank(x, bit, n)
				total += m
				for k := range m {
					at, _ := plain.Select(x, bit, k)
					got, _ := plain.Access(x, at)
					if r, e := plain.Rank(x, bit, at); r != k || e != api.OK || got != bit {
						t.Fatalf("%s: Rank of Select of %v with %d ahead = %d, %d", short(x), bit, k, r, e)
					}
				}
			}
			if total != n {
				t.Fatalf("%s: %d bits are 0 or 1", short(x), total)
			}
		}
	}
}

// R3: what is answered is memory of its own, also apart from what it was made of.
func TestSharesNothing(t *testing.T) {
	for _, n := range lengths() {
		b := row(mixed(n))
		x, _ := plain.Build(b)
		y, _ := plain.Build(b)
		c, d := plain.Bits(x), plain.Bits(x)
		alone := func(what string, l []uint64) {
			t.Helper()
			before := []api.Plain{clone(whole(x)), clone(whole(y)), clone(whole(api.Plain{Bits: b})), clone(whole(api.Plain{Bits: c})), clone(whole(api.Plain{Bits: d}))}
			l = l[:cap(l)]
			kept := slices.Clone(l)
			for i := range l {
				l[i] = ^l[i]
			}
			differ := 0
			for i, now := range []api.Plain{whole(x), whole(y), whole(api.Plain{Bits: b}), whole(api.Plain{Bits: c}), whole(api.Plain{Bits: d})} {
				if !same(now, before[i]) {
					differ++
				}
			}
			if differ > min(1, len(l)) {
				t.Errorf("%s of %d bits shares its words", what, n)
			}
			copy(l, kept)
		}
		alone("the row", b.W)
		alone("Build", x.Bits.W)
		alone("Build again", y.Bits.W)
		alone("Bits", c.W)
		alone("Bits again", d.W)
	}
}

// R3: no two lists of what is built share memory, nor do two that are built.
func TestCountsShareNothing(t *testing.T) {
	for _, n := range lengths() {
		b := row(mixed(n))
		x, _ := plain.Build(b)
		y, _ := plain.Build(b)
		before := [][]int{slices.Clone(x.Sub), slices.Clone(y.Super), slices.Clone(y.Sub)}
		super := x.Super[:cap(x.Super)]
		for i := range super {
			super[i] = -7
		}
		if !slices.Equal(x.Sub, before[0]) || !slices.Equal(y.Super, before[1]) || !slices.Equal(y.Sub, before[2]) {
			t.Errorf("Super of %d bits is shared", n)
		}
		sub := x.Sub[:cap(x.Sub)]
		for i := range sub {
			sub[i] = -9
		}
		if slices.Contains(x.Super, -9) || !slices.Equal(y.Super, before[1]) || !slices.Equal(y.Sub, before[2]) {
			t.Errorf("Sub of %d bits is shared", n)
		}
	}
}

// R7: what stands in the room behind the end of a list is neither read nor written to.
func TestRoomBehindTheEnd(t *testing.T) {
	for _, n := range []int{0, 1, 64, 65, 512, 513, 1024} {
		l := mixed(n)
		want := expected(l)
		words := append(slices.Clone(want.Bits.W), all, all)
		super := append(slices.Clone(want.Super), -5, -5)
		sub := append(slices.Clone(want.Sub), -6, -6)
		b := api.Bits{N: n, W: words[:len(want.Bits.W)]}
		if x, e := plain.Build(b); e != api.OK || !same(x, want) {
			t.Errorf("Build of %d bits with room behind = %s, %d", n, short(x), e)
		}
		x := api.Plain{Bits: b, Super: super[:len(want.Super)], Sub: sub[:len(want.Sub)]}
		if !plain.Check(x) || !sameRow(plain.Bits(x), row(l)) || plain.Size(x) != plain.Size(want) {
			t.Errorf("%s with room behind may not be", short(x))
		}
		if got, e := plain.Rank(x, true, n); got != ahead(l, true)[n] || e != api.OK {
			t.Errorf("Rank(%s, true, %d) = %d, %d", short(x), n, got, e)
		}
		if words[len(words)-1] != all || words[len(words)-2] != all || !slices.Equal(super[len(want.Super):], []int{-5, -5}) || !slices.Equal(sub[len(want.Sub):], []int{-6, -6}) {
			t.Errorf("the room behind %d bits was written to", n)
		}
	}
}

// The chapter's example: 600 noughts and a 1.
func TestExample(t *testing.T) {
	b := row(but(601, 600, true))
	x, e := plain.Build(b)
	want := api.Plain{Bits: b, Super: []int{0, 0}, Sub: make([]int, 10)}
	if e != api.OK || !same(x, want) {
		t.Errorf("Build of 600 noughts and a 1 = %s, %d, want %s", short(x), e, short(want))
	}
	if at, e := plain.Select(x, true, 0); at != 600 || e != api.OK {
		t.Errorf("the 1 is at %d, %d", at, e)
	}
}
