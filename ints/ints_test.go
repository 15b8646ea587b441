package ints_test

import (
	"math"
	"slices"
	"testing"

	"haystack/api"
	"haystack/ints"
)

const (
	all  = math.MaxUint64
	most = 1 << 20 // MaxBits, written out as the document does
)

// low answers the greatest number of that width.
func low(width int) uint64 {
	return all >> (64 - width)
}

// mixed answers n numbers of a fixed row that have no bit above the width.
func mixed(width int, n int) []uint64 {
	l := make([]uint64, n)
	x := uint64(88172645463325252)
	for i := range l {
		x ^= x << 13
		x ^= x >> 7
		x ^= x << 17
		l[i] = x & low(width)
	}
	return l
}

// repeated answers n times the number v.
func repeated(v uint64, n int) []uint64 {
	return slices.Repeat([]uint64{v}, n)
}

// row answers the row of the numbers l, built bit by bit from what api says of Ints and Bits, without the package that is tested.
func row(width int, l []uint64) api.Ints {
	b := api.Bits{}
	for _, v := range l {
		for range width {
			if b.N%64 == 0 {
				b.W = append(b.W, 0)
			}
			if v%2 == 1 {
				b.W[b.N/64] += 1 << (b.N % 64)
			}
			v /= 2
			b.N++
		}
	}
	return api.Ints{N: len(l), Width: width, Bits: b}
}

func same(a, b api.Ints) bool {
	return a.N == b.N && a.Width == b.Width && a.Bits.N == b.Bits.N && slices.Equal(a.Bits.W, b.Bits.W)
}

func clone(x api.Ints) api.Ints {
	x.Bits.W = slices.Clone(x.Bits.W)
	return x
}

// short tells a row in few words: the rows of 2^20 bits would fill the screen.
func short(x api.Ints) api.Ints {
	x.Bits.W = x.Bits.W[:min(len(x.Bits.W), 4)]
	return x
}

func wantRow(t *testing.T, what string, got api.Ints, e api.Errno, want api.Ints, wantE api.Errno) {
	t.Helper()
	if e != wantE || !same(got, want) {
		t.Errorf("%s: got %v (%d words), %d, want %v (%d words), %d", what, short(got), len(got.Bits.W), e, short(want), len(want.Bits.W), wantE)
	}
}

// apart checks that two lists have no word in common, nor room behind them.
func apart(t *testing.T, what string, got []uint64, in []uint64) {
	t.Helper()
	got, in = got[:cap(got)], in[:cap(in)]
	before := slices.Clone(in)
	for i := range got {
		got[i] = ^got[i]
	}
	if !slices.Equal(in, before) {
		t.Errorf("%s: the answer shares words with what was handed in", what)
	}
	for i := range got {
		got[i] = ^got[i]
	}
}

// counts are how many numbers the rows of the tests have.
func counts() []int {
	return []int{0, 1, 2, 3, 5, 63, 64, 65, 130}
}

// andMost are counts and, of some widths, also as many numbers as there may be: rows of 2^20 bits of every width take long.
func andMost(width int) []int {
	if slices.Contains([]int{1, 2, 3, 7, 8, 13, 32, 33, 62, 63, 64}, width) {
		return append(counts(), most/width-1, most/width)
	}
	return counts()
}

// widths are all that may be.
func widths() []int {
	l := make([]int, 64)
	for i := range l {
		l[i] = i + 1
	}
	return l
}

// noWidths are widths that no number has, near the edges and far from them.
func noWidths() []int {
	return []int{math.MinInt, math.MinInt + 1, -most, -65, -64, -63, -2, -1, 0, 65, 66, 127, 128, 129, most, 1 << 32, 1<<32 + 1, math.MaxInt - 1, math.MaxInt}
}

// far are places far from every row, or those of which a product is taken round.
func far() []int {
	return []int{math.MinInt, math.MinInt + 1, math.MinInt32, -1 << 58, -most, -65, -64, -2, -1, 2 * most, math.MaxInt32, 1 << 32, 1 << 58, 1<<58 + 1, 1 << 60, 1 << 62, math.MaxInt - 1, math.MaxInt}
}

// wrong are rows that may not be.
func wrong() []api.Ints {
	one := api.Bits{N: 1, W: []uint64{1}}
	word := api.Bits{N: 64, W: []uint64{all}}
	l := []api.Ints{
		{},
		{N: -1, Width: 1}, {N: -1, Width: 3, Bits: api.Bits{N: 3, W: []uint64{5}}}, {N: -64, Width: 1, Bits: word}, {N: math.MinInt, Width: 1}, {N: math.MinInt, Width: 2}, {N: math.MinInt, Width: 64, Bits: word},
		// taken round, N times Width would be 0, 2, 60 or 64, as many bits as there are
		{N: 1 << 58, Width: 64}, {N: 1<<58 + 1, Width: 64, Bits: word}, {N: 1 << 60, Width: 16}, {N: 1 << 62, Width: 4}, {N: 1<<62 + 15, Width: 4, Bits: api.Bits{N: 60, W: []uint64{5}}}, {N: -1 << 58, Width: 64}, {N: -1 << 62, Width: 4},
		{N: 6148914691236517206, Width: 3, Bits: api.Bits{N: 2, W: []uint64{3}}}, {N: math.MaxInt, Width: 1}, {N: math.MaxInt, Width: 2}, {N: math.MaxInt, Width: 64, Bits: word},
		// more or fewer bits than N times Width
		{N: 0, Width: 1, Bits: one}, {N: 0, Width: 64, Bits: word}, {N: 1, Width: 1}, {N: 1, Width: 2, Bits: one}, {N: 2, Width: 1, Bits: one}, {N: 1, Width: 63, Bits: word}, {N: 2, Width: 64, Bits: word}, {N: 64, Width: 64, Bits: word}, {N: 65, Width: 1, Bits: word}, {N: 63, Width: 1, Bits: word},
		{N: 2, Width: 3, Bits: api.Bits{N: 5, W: []uint64{13}}}, {N: 2, Width: 3, Bits: api.Bits{N: 7, W: []uint64{13}}}, {N: 64, Width: 1, Bits: api.Bits{N: 1, W: []uint64{1}}},
		{N: most, Width: 2, Bits: api.Bits{N: most, W: make([]uint64, most/64)}}, {N: most / 2, Width: 1, Bits: api.Bits{N: most, W: make([]uint64, most/64)}},
		// bits that may not be, of N times Width by their N
		{N: 1, Width: 1, Bits: api.Bits{N: 1}}, {N: 1, Width: 1, Bits: api.Bits{N: 1, W: []uint64{2}}}, {N: 1, Width: 1, Bits: api.Bits{N: 1, W: []uint64{1, 0}}}, {N: 0, Width: 5, Bits: api.Bits{W: []uint64{0}}},
		{N: 1, Width: 64, Bits: api.Bits{N: 64}}, {N: 2, Width: 64, Bits: api.Bits{N: 128, W: []uint64{9}}}, {N: 5, Width: 13, Bits: api.Bits{N: 65, W: []uint64{9, 2}}}, {N: 2, Width: 3, Bits: api.Bits{N: 6, W: []uint64{1 << 6}}}, {N: 2, Width: 3, Bits: api.Bits{N: 6, W: []uint64{1 << 63}}},
		{N: -1, Width: 1, Bits: api.Bits{N: -1}}, {N: -1, Width: 64, Bits: api.Bits{N: -64}}, {N: math.MinInt, Width: 1, Bits: api.Bits{N: math.MinInt}},
		{N: most + 1, Width: 1, Bits: api.Bits{N: most + 1, W: make([]uint64, most/64+1)}}, {N: most/64 + 1, Width: 64, Bits: api.Bits{N: most + 64, W: make([]uint64, most/64+1)}}, {N: math.MaxInt, Width: 1, Bits: api.Bits{N: math.MaxInt}},
	}
	for _, width := range noWidths() {
		l = append(l, api.Ints{Width: width}, api.Ints{N: 1, Width: width, Bits: one}, api.Ints{N: -1, Width: width}, api.Ints{N: 2, Width: width, Bits: word}, api.Ints{N: most, Width: width})
		if width > 64 && width < 200 { // all else is as it should be
			l = append(l, row(width, repeated(1, 3)))
		}
		if width < 0 && width > -200 { // both below 0: their product is as it should be
			l = append(l, api.Ints{N: -1, Width: width, Bits: api.Bits{N: -width, W: make([]uint64, (63-width)/64)}})
		}
	}
	return l
}

// P3.1 Check.
func TestCheck(t *testing.T) {
	for _, width := range widths() {
		for _, n := range andMost(width) {
			for _, l := range [][]uint64{repeated(0, n), repeated(low(width), n), mixed(width, n)} {
				x := row(width, l)
				if !ints.Check(x) {
					t.Errorf("Check(%v) = false", short(x))
				}
				roomy := x
				roomy.Bits.W = append(slices.Clone(x.Bits.W), 7, 7, 7)[:len(x.Bits.W)]
				if !ints.Check(roomy) {
					t.Errorf("Check(%v) = false: what stands behind the end of a list is nobody's", short(x))
				}
				if n > 0 && (ints.Check(api.Ints{N: n - 1, Width: width, Bits: x.Bits}) || ints.Check(api.Ints{N: n + 1, Width: width, Bits: x.Bits})) {
					t.Errorf("Check of %d bits, width %d, tells %d or %d numbers", x.Bits.N, width, n-1, n+1)
				}
			}
		}
		if !ints.Check(api.Ints{Width: width, Bits: api.Bits{W: []uint64{}}}) {
			t.Errorf("a row of no number of width %d may be, nil or empty", width)
		}
	}
	for _, x := range wrong() {
		if ints.Check(x) {
			t.Errorf("Check(%v, %d words) = true", short(x), len(x.Bits.W))
		}
	}
}

// P3.1 Make.
func TestMake(t *testing.T) {
	for _, width := range widths() {
		for _, n := range andMost(width) {
			for _, l := range [][]uint64{repeated(0, n), repeated(low(width), n), mixed(width, n)} {
				before := slices.Clone(l)
				x, e := ints.Make(width, l)
				wantRow(t, "Make", x, e, row(width, l), api.OK)
				if !ints.Check(x) {
					t.Errorf("Make(%d) of %d numbers may not be", width, n)
				}
				apart(t, "Make", x.Bits.W, l)
				y, _ := ints.Make(width, l)
				apart(t, "Make twice", x.Bits.W, y.Bits.W)
				if !slices.Equal(l, before) {
					t.Errorf("Make(%d) changed its %d numbers", width, n)
				}
			}
		}
		x, e := ints.Make(width, nil)
		wantRow(t, "Make of nil", x, e, api.Ints{Width: width}, api.OK)
	}
}

func TestMakeRefused(t *testing.T) {
	for _, width := range noWidths() {
		for _, l := range [][]uint64{nil, {}, {0}, {1, 0}, {all}, repeated(0, 64)} {
			x, e := ints.Make(width, l)
			wantRow(t, "Make of no width", x, e, api.Ints{}, api.ErrArg)
		}
	}
	for _, width := range widths() {
		for _, n := range []int{most/width + 1, most/width + 2, most + 1} {
			x, e := ints.Make(width, repeated(0, n))
			wantRow(t, "Make of too many", x, e, api.Ints{}, api.ErrArg)
		}
	}
	for _, width := range widths()[:63] { // no number has a bit above 64
		for place := width; place < 64; place++ {
			for _, l := range [][]uint64{{1 << place}, {1<<place | 1}, {0, 0, 1 << place}, {1 << place, 0, 1}, {1, 1 << place, 0}, {all << place}} {
				x, e := ints.Make(width, l)
				wantRow(t, "Make of a number that is too wide", x, e, api.Ints{}, api.ErrArg)
			}
		}
		l := mixed(width, most/width)
		l[len(l)-1] = low(width) + 1
		x, e := ints.Make(width, l)
		wantRow(t, "Make of the most, the last too wide", x, e, api.Ints{}, api.ErrArg)
	}
}

// P3.1 Of.
func TestOf(t *testing.T) {
	for _, c := range []struct {
		l     []uint64
		width int
	}{
		{nil, 1}, {[]uint64{}, 1}, {[]uint64{0}, 1}, {[]uint64{0, 0, 0}, 1}, {repeated(0, 65), 1}, {[]uint64{1}, 1}, {[]uint64{1, 0}, 1}, {[]uint64{2}, 2}, {[]uint64{3, 0}, 2}, {[]uint64{0, 4}, 3}, {[]uint64{5, 1}, 3}, {[]uint64{5, 1, 7}, 3}, {[]uint64{7, 8}, 4}, {[]uint64{8, 7}, 4},
		{[]uint64{1, 1 << 31}, 32}, {[]uint64{1 << 32, 1}, 33}, {[]uint64{all >> 1}, 63}, {[]uint64{1 << 62, 0}, 63}, {[]uint64{1 << 63}, 64}, {[]uint64{0, all, 0}, 64}, {repeated(all, 100), 64},
	} {
		before := slices.Clone(c.l)
		x, e := ints.Of(c.l)
		wantRow(t, "Of", x, e, row(c.width, c.l), api.OK)
		apart(t, "Of", x.Bits.W, c.l)
		if !slices.Equal(c.l, before) {
			t.Errorf("Of changed %v to %v", before, c.l)
		}
	}
	for _, width := range widths() {
		for _, n := range andMost(width)[1:] {
			for _, at := range []int{0, n / 2, n - 1} { // the widest number alone tells the width, wherever it stands
				l := repeated(0, n)
				l[at] = 1 << (width - 1)
				x, e := ints.Of(l)
				wantRow(t, "Of", x, e, row(width, l), api.OK)
			}
		}
		l := repeated(0, most/width+1)
		l[len(l)-1] = 1 << (width - 1)
		x, e := ints.Of(l)
		wantRow(t, "Of too many", x, e, api.Ints{}, api.ErrArg)
	}
}

// P3.2: each call answers ErrArg, 0 or the row, and no number, of a row that may not be, whatever else is wrong.
func TestRowsThatMayNotBe(t *testing.T) {
	for _, x := range wrong() {
		before := clone(x)
		for _, i := range append(far(), 0, 1, 63, 64, x.N) {
			if v, e := ints.Get(x, i); v != 0 || e != api.ErrArg {
				t.Errorf("Get(%v, %d) = %d, %d", short(x), i, v, e)
			}
			for _, v := range []uint64{0, 1, all} {
				y, e := ints.Put(x, i, v)
				wantRow(t, "Put", y, e, before, api.ErrArg)
				apart(t, "Put", y.Bits.W, x.Bits.W)
			}
		}
		if l := ints.List(x); len(l) != 0 {
			t.Errorf("List(%v) has %d numbers", short(x), len(l))
		}
		if !same(x, before) {
			t.Errorf("%v was changed to %v", short(before), short(x))
		}
	}
}

// P3.2 Get.
func TestGet(t *testing.T) {
	for _, width := range widths() {
		for _, n := range andMost(width) {
			l := mixed(width, n)
			x := row(width, l)
			for i := range n {
				if v, e := ints.Get(x, i); v != l[i] || e != api.OK {
					t.Fatalf("Get(%v, %d) = %d, %d, want %d", short(x), i, v, e, l[i])
				}
			}
			full := row(width, repeated(low(width), n))
			if n > 0 {
				for _, i := range []int{0, n - 1} {
					if v, e := ints.Get(full, i); v != low(width) || e != api.OK {
						t.Errorf("Get(%v, %d) = %d, %d", short(full), i, v, e)
					}
				}
			}
			for _, i := range append(far(), n, n+1, n+64) {
				if v, e := ints.Get(full, i); v != 0 || e != api.ErrRange {
					t.Errorf("Get(%v, %d) = %d, %d", short(full), i, v, e)
				}
			}
		}
	}
}

// P3.2 Put: at every place of short rows, over the borders of words too; no other number is another.
func TestPut(t *testing.T) {
	for _, width := range widths() {
		for _, n := range []int{1, 2, 3, 65} {
			for _, l := range [][]uint64{repeated(0, n), repeated(low(width), n), mixed(width, n)} {
				x := row(width, l)
				for i := range n {
					for _, v := range []uint64{0, 1, 1 << (width - 1), low(width), 0xA5C3F00F12345678 & low(width)} {
						want := slices.Clone(l)
						want[i] = v
						y, e := ints.Put(x, i, v)
						wantRow(t, "Put", y, e, row(width, want), api.OK)
						apart(t, "Put", y.Bits.W, x.Bits.W)
						if got, e := ints.Get(y, i); got != v || e != api.OK {
							t.Fatalf("%d put at %d is %d, %d", v, i, got, e)
						}
					}
				}
				if !same(x, row(width, l)) {
					t.Fatalf("Put changed %v", short(x))
				}
			}
		}
		n := most / width
		l := mixed(width, n)
		x := row(width, l)
		for _, i := range []int{0, n / 2, n - 1} {
			want := slices.Clone(l)
			want[i] ^= low(width)
			y, e := ints.Put(x, i, want[i])
			wantRow(t, "Put into the most", y, e, row(width, want), api.OK)
		}
	}
}

func TestPutRefused(t *testing.T) {
	for _, width := range widths() {
		for _, n := range counts() {
			x := row(width, mixed(width, n))
			before := clone(x)
			for _, i := range append(far(), n, n+1, n+64) { // ErrRange is named ahead of ErrArg of a number
				for _, v := range []uint64{0, 1, all} {
					y, e := ints.Put(x, i, v)
					wantRow(t, "Put behind", y, e, before, api.ErrRange)
					apart(t, "Put behind", y.Bits.W, x.Bits.W)
				}
			}
			for _, i := range []int{0, n / 2, n - 1} {
				for place := width; place < 64 && n > 0; place++ {
					for _, v := range []uint64{1 << place, 1<<place | 1, all << place, all} {
						y, e := ints.Put(x, i, v)
						wantRow(t, "Put of a number that is too wide", y, e, before, api.ErrArg)
						apart(t, "Put of a number that is too wide", y.Bits.W, x.Bits.W)
					}
				}
			}
			if !same(x, before) {
				t.Fatalf("Put changed %v", short(before))
			}
		}
	}
}

// What stands in the room behind a row's words is neither taken up nor written to.
func TestRoomBehindTheEnd(t *testing.T) {
	room := []uint64{1, all, all}
	x := api.Ints{N: 2, Width: 32, Bits: api.Bits{N: 64, W: room[:1]}}
	y, e := ints.Put(x, 1, 3)
	wantRow(t, "Put", y, e, row(32, []uint64{1, 3}), api.OK)
	if v, e := ints.Get(x, 2); v != 0 || e != api.ErrRange {
		t.Error("Get behind the end:", v, e)
	}
	if l := ints.List(x); !slices.Equal(l, []uint64{1, 0}) {
		t.Error("List:", l)
	}
	if !slices.Equal(room, []uint64{1, all, all}) {
		t.Error("the room behind the row was written to:", room)
	}
}

// P3.2 List.
func TestList(t *testing.T) {
	for _, width := range widths() {
		for _, n := range andMost(width) {
			for _, l := range [][]uint64{repeated(0, n), repeated(low(width), n), mixed(width, n)} {
				x := row(width, l)
				before := clone(x)
				got := ints.List(x)
				if !slices.Equal(got, l) {
					t.Fatalf("List(%v) has %d numbers that are not those", short(x), len(got))
				}
				apart(t, "List", got, x.Bits.W)
				apart(t, "List twice", got, ints.List(x))
				if !same(x, before) {
					t.Fatalf("List changed %v", short(before))
				}
			}
		}
	}
}

// P3.3: List of Make is the numbers, and each of them is got.
func TestListOfMake(t *testing.T) {
	for _, width := range widths() {
		for _, n := range andMost(width) {
			l := mixed(width, n)
			x, e := ints.Make(width, l)
			if got := ints.List(x); e != api.OK || !slices.Equal(got, l) {
				t.Fatalf("List of Make(%d) of %d numbers: %d", width, n, e)
			}
			y, e := ints.Of(l)
			if got := ints.List(y); e != api.OK || !slices.Equal(got, l) {
				t.Fatalf("List of Of %d numbers: %d", n, e)
			}
			for i, want := range l {
				if v, e := ints.Get(x, i); v != want || e != api.OK {
					t.Fatalf("Get(Make(%d), %d) = %d, %d, want %d", width, i, v, e, want)
				}
			}
		}
	}
}

// P3.3: Of takes no more bits than Make of any width, and is refused only where Make of every width is.
func TestOfTakesTheFewestBits(t *testing.T) {
	rows := [][]uint64{nil, {0}, {1}, {0, 0}, {5, 1}, {all}, {1 << 63, 1}, repeated(0, most), repeated(1, most+1), repeated(7, most/3), repeated(7, most/3+1), repeated(all, most/64), repeated(all, most/64+1)}
	for _, width := range widths() {
		rows = append(rows, mixed(width, 3), mixed(width, 70))
	}
	for _, l := range rows {
		x, e := ints.Of(l)
		made := false
		for _, width := range append(widths(), noWidths()...) {
			y, f := ints.Make(width, l)
			if f != api.OK {
				continue
			}
			made = true
			if x.Bits.N > y.Bits.N || x.Width > y.Width {
				t.Errorf("Of %d numbers takes %d bits, Make(%d) takes %d", len(l), x.Bits.N, width, y.Bits.N)
			}
		}
		if made != (e == api.OK) {
			t.Errorf("Of %d numbers answers %d, but that Make answers a row is %v", len(l), e, made)
		}
	}
}

// The chapter's example.
func TestExample(t *testing.T) {
	x, e := ints.Of([]uint64{5, 1}) // 101 100, the lowest bit first
	wantRow(t, "Of 5, 1", x, e, api.Ints{N: 2, Width: 3, Bits: api.Bits{N: 6, W: []uint64{0b001101}}}, api.OK)
}
