package vector_test

import (
	"fmt"
	"math"
	"slices"
	"testing"

	"haystack/api"
	"haystack/fano"
	"haystack/plain"
	"haystack/rrr"
	"haystack/vector"
)

const (
	all  = math.MaxUint64
	most = 1 << 20 // MaxBits, written out as the document does
)

// both are the two bits that are counted and sought.
var both = []bool{false, true}

// kinds are the kinds that there are, by the numbers that the document gives them.
func kinds() []int {
	return []int{1, 2, 3}
}

// noKinds are numbers that are no kind.
func noKinds() []int {
	return []int{math.MinInt, math.MinInt + 1, math.MinInt + 3, -1 << 32, -3, -2, -1, 0, 4, 5, 6, 255, 256, 257, 1<<32 + 1, 1<<32 + 2, 1<<32 + 3, math.MaxInt - 1, math.MaxInt}
}

// layer is what a kind's own layer answers, of the field of that kind alone.
type layer struct {
	build  func(b api.Bits) (api.Vector, api.Errno)
	check  func(x api.Vector) bool
	bits   func(x api.Vector) api.Bits
	access func(x api.Vector, i int) (bool, api.Errno)
	rank   func(x api.Vector, bit bool, i int) (int, api.Errno)
	sought func(x api.Vector, bit bool, k int) (int, api.Errno)
	size   func(x api.Vector) int
}

// layers answers the layers of the kinds, each at its kind.
func layers() [4]layer {
	return [4]layer{
		1: {
			build: func(b api.Bits) (api.Vector, api.Errno) {
				x, e := plain.Build(b)
				return api.Vector{Kind: 1, Plain: x}, e
			},
			check:  func(x api.Vector) bool { return plain.Check(x.Plain) },
			bits:   func(x api.Vector) api.Bits { return plain.Bits(x.Plain) },
			access: func(x api.Vector, i int) (bool, api.Errno) { return plain.Access(x.Plain, i) },
			rank:   func(x api.Vector, bit bool, i int) (int, api.Errno) { return plain.Rank(x.Plain, bit, i) },
			sought: func(x api.Vector, bit bool, k int) (int, api.Errno) { return plain.Select(x.Plain, bit, k) },
			size:   func(x api.Vector) int { return plain.Size(x.Plain) },
		},
		2: {
			build: func(b api.Bits) (api.Vector, api.Errno) {
				x, e := rrr.Build(b)
				return api.Vector{Kind: 2, Rrr: x}, e
			},
			check:  func(x api.Vector) bool { return rrr.Check(x.Rrr) },
			bits:   func(x api.Vector) api.Bits { return rrr.Bits(x.Rrr) },
			access: func(x api.Vector, i int) (bool, api.Errno) { return rrr.Access(x.Rrr, i) },
			rank:   func(x api.Vector, bit bool, i int) (int, api.Errno) { return rrr.Rank(x.Rrr, bit, i) },
			sought: func(x api.Vector, bit bool, k int) (int, api.Errno) { return rrr.Select(x.Rrr, bit, k) },
			size:   func(x api.Vector) int { return rrr.Size(x.Rrr) },
		},
		3: {
			build: func(b api.Bits) (api.Vector, api.Errno) {
				x, e := fano.Build(b)
				return api.Vector{Kind: 3, Fano: x}, e
			},
			check:  func(x api.Vector) bool { return fano.Check(x.Fano) },
			bits:   func(x api.Vector) api.Bits { return fano.Bits(x.Fano) },
			access: func(x api.Vector, i int) (bool, api.Errno) { return fano.Access(x.Fano, i) },
			rank:   func(x api.Vector, bit bool, i int) (int, api.Errno) { return fano.Rank(x.Fano, bit, i) },
			sought: func(x api.Vector, bit bool, k int) (int, api.Errno) { return fano.Select(x.Fano, bit, k) },
			size:   func(x api.Vector) int { return fano.Size(x.Fano) },
		},
	}
}

// mixed answers n bits of a fixed row that has runs and changes, about half of them 1.
func mixed(n int) []bool {
	l := make([]bool, n)
	x := uint64(88172645463325252)
	for i := range l {
		x ^= x << 13
		x ^= x >> 7
		x ^= x << 17
		l[i] = x>>40&1 == 1
	}
	return l
}

// half answers n bits, every other one 1, the first of them 0.
func half(n int) []bool {
	l := make([]bool, n)
	for i := range l {
		l[i] = i%2 == 1
	}
	return l
}

// few answers n bits of which few are 1, some of them close to one another.
func few(n int) []bool {
	l := make([]bool, n)
	for i := range l {
		l[i] = i%37 == 5 || i%101 == 3 || i%101 == 4
	}
	return l
}

// every answers n bits, each step-th of them 1.
func every(n int, step int) []bool {
	l := make([]bool, n)
	for i := range l {
		l[i] = i%step == step/2
	}
	return l
}

// but answers n bits, all of them unlike x but the one at a place, if there is such a place.
func but(n int, place int, x bool) []bool {
	l := slices.Repeat([]bool{!x}, n)
	if place >= 0 && place < n {
		l[place] = x
	}
	return l
}

// rowsOf answers rows of n bits: all 0, all 1, half of them 1, few, and with one bit unlike the others, the first, the last, or one in the middle.
func rowsOf(n int) [][]bool {
	l := [][]bool{but(n, -1, true), but(n, -1, false), mixed(n), half(n), few(n)}
	for _, x := range both {
		l = append(l, but(n, 0, x), but(n, n/2, x), but(n, n-1, x))
	}
	return l
}

// lengths are how many bits the short rows have.
func lengths() []int {
	return []int{0, 1, 2, 15, 16, 63, 64, 65, 127, 128, 129, 1025}
}

// shortRows answers all rows of these lengths.
func shortRows() [][]bool {
	var rows [][]bool
	for _, n := range lengths() {
		rows = append(rows, rowsOf(n)...)
	}
	return rows
}

// longRows are the longest rows of their sort that each kind takes.
func longRows() [][]bool {
	return [][]bool{but(most-1, -1, true), but(most/2-1, -1, false), but(most, 0, true), but(most, most/2, true), but(most, most-1, true), every(most, 1000), few(most)}
}

// tooLongForFano are rows that the kinds 1 and 2 take, and the kind 3 refuses.
func tooLongForFano() [][]bool {
	return [][]bool{but(most, -1, true), but(most, -1, false), but(most-1, -1, false), but(most/2, -1, false), but(most, 0, false), but(most, most-1, false), half(most)}
}

// far are places and counts far from every row.
func far() []int {
	return []int{math.MinInt, math.MinInt + 1, math.MinInt32, -most, -65, -64, -2, -1, most + 1, 2 * most, math.MaxInt32, 1 << 32, math.MaxInt - 64, math.MaxInt - 1, math.MaxInt}
}

// row answers the row of the bits l.
func row(l []bool) api.Bits {
	b := api.Bits{N: len(l)}
	for i, x := range l {
		if i%64 == 0 {
			b.W = append(b.W, 0)
		}
		if x {
			b.W[i/64] += 1 << (i % 64)
		}
	}
	return b
}

// listed answers the bits of b.
func listed(b api.Bits) []bool {
	l := make([]bool, b.N)
	for i := range l {
		l[i] = b.W[i/64]>>(i%64)&1 == 1
	}
	return l
}

// ahead answers, for each place of l and for its end, how many of the bits ahead of it are x.
func ahead(l []bool, x bool) []int {
	counts := make([]int, len(l)+1)
	for i := range l {
		counts[i+1] = counts[i]
		if l[i] == x {
			counts[i+1]++
		}
	}
	return counts
}

// places answers the places of the bits of l that are x.
func places(l []bool, x bool) []int {
	var at []int
	for i := range l {
		if l[i] == x {
			at = append(at, i)
		}
	}
	return at
}

// wrongRows are rows of bits that may not be.
func wrongRows() []api.Bits {
	l := []api.Bits{
		{N: math.MinInt}, {N: -1}, {N: -1, W: []uint64{0}}, {N: -64, W: []uint64{0}},
		{N: most + 1, W: make([]uint64, most/64)}, {N: most + 1, W: make([]uint64, most/64+1)}, {N: most + 64, W: make([]uint64, most/64+1)},
		{N: 1 << 32}, {N: math.MaxInt}, {N: math.MaxInt, W: []uint64{1, 2}}, {N: math.MaxInt - 62},
		{N: 0, W: []uint64{0}}, {N: 0, W: []uint64{5}}, {N: 1}, {N: 1, W: []uint64{1, 0}}, {N: 15}, {N: 64}, {N: 64, W: []uint64{3, 0}},
		{N: 65, W: []uint64{9}}, {N: 65, W: []uint64{9, 1, 0}}, {N: 128, W: []uint64{1}}, {N: 128, W: []uint64{1, 2, 3}},
		{N: most, W: make([]uint64, most/64-1)}, {N: most, W: make([]uint64, most/64+1)}, {N: most - 1, W: append(make([]uint64, most/64-1), 1<<63)},
	}
	for _, n := range []int{1, 15, 16, 62, 63} { // one bit of the last word from N on
		for _, place := range []int{n, 63} {
			l = append(l, api.Bits{N: n, W: []uint64{1 << place}}, api.Bits{N: 64 + n, W: []uint64{all, 1<<place | 1}})
		}
	}
	return l
}

// parts are all that the field of a kind is made of: its numbers, its rows of words, its lists of numbers.
type parts struct {
	numbers []*int
	words   []*[]uint64
	lists   []*[]int
}

// partsOf answers the parts of the field that x has for a kind, whichever its own is.
func partsOf(x *api.Vector, kind int) parts {
	switch kind {
	case 1:
		p := &x.Plain
		return parts{[]*int{&p.Bits.N}, []*[]uint64{&p.Bits.W}, []*[]int{&p.Super, &p.Sub}}
	case 2:
		r := &x.Rrr
		return parts{[]*int{&r.N, &r.Class.N, &r.Class.Width, &r.Class.Bits.N, &r.Off.N}, []*[]uint64{&r.Class.Bits.W, &r.Off.W}, []*[]int{&r.Ones, &r.Points}}
	default:
		f := &x.Fano
		return parts{[]*int{&f.N, &f.M, &f.Low.N, &f.Low.Width, &f.Low.Bits.N, &f.High.N}, []*[]uint64{&f.Low.Bits.W, &f.High.W}, nil}
	}
}

// samePart tells whether the fields of a kind are alike; nil and empty lists are.
func samePart(a, b api.Vector, kind int) bool {
	p, q := partsOf(&a, kind), partsOf(&b, kind)
	alike := true
	for i := range p.numbers {
		alike = alike && *p.numbers[i] == *q.numbers[i]
	}
	for i := range p.words {
		alike = alike && slices.Equal(*p.words[i], *q.words[i])
	}
	for i := range p.lists {
		alike = alike && slices.Equal(*p.lists[i], *q.lists[i])
	}
	return alike
}

func same(a, b api.Vector) bool {
	return a.Kind == b.Kind && samePart(a, b, 1) && samePart(a, b, 2) && samePart(a, b, 3)
}

func sameRow(a, b api.Bits) bool {
	return a.N == b.N && slices.Equal(a.W, b.W)
}

func clone(x api.Vector) api.Vector {
	for _, kind := range kinds() {
		p := partsOf(&x, kind)
		for _, w := range p.words {
			*w = slices.Clone(*w)
		}
		for _, l := range p.lists {
			*l = slices.Clone(*l)
		}
	}
	return x
}

// changed answers x with something changed by f, in lists of their own.
func changed(x api.Vector, f func(x *api.Vector)) api.Vector {
	y := clone(x)
	f(&y)
	return y
}

// short tells a value in few words: the greatest ones would fill the screen.
func short(x api.Vector) string {
	text := fmt.Sprintf("{kind %d", x.Kind)
	for _, kind := range kinds() {
		text += fmt.Sprintf("; of kind %d:", kind)
		p := partsOf(&x, kind)
		for _, n := range p.numbers {
			text += fmt.Sprintf(" %d", *n)
		}
		for _, w := range p.words {
			text += fmt.Sprintf(" %d words %#x..", len(*w), (*w)[:min(2, len(*w))])
		}
		for _, l := range p.lists {
			text += fmt.Sprintf(" %d numbers %d..", len(*l), (*l)[:min(2, len(*l))])
		}
	}
	return text + "}"
}

// made answers the value of the bits l of a kind, made by that kind's layer, without the package that is tested.
func made(t *testing.T, kind int, l []bool) api.Vector {
	t.Helper()
	x, e := layers()[kind].build(row(l))
	if e != api.OK {
		t.Fatalf("layer %d refuses %d bits: %d", kind+6, len(l), e)
	}
	return x
}

// built answers Build of the bits l.
func built(t *testing.T, kind int, l []bool) api.Vector {
	t.Helper()
	x, e := vector.Build(kind, row(l))
	if e != api.OK {
		t.Fatalf("Build(%d) of %d bits: %d", kind, len(l), e)
	}
	return x
}

// asked are the places, or counts, at which n of them are asked: all of few; of many those at the ends, in the middle and some others.
func asked(n int) []int {
	var l []int
	if n <= 130 {
		for i := range n {
			l = append(l, i)
		}
		return l
	}
	for _, i := range []int{1, 15, 63, 64, 65, 120, 511, 512, 513, n / 3, n / 2, n - 65, n - 64, n - 2} {
		if i >= 0 && i < n {
			l = append(l, i)
		}
	}
	return append(l, 0, n-1)
}

// wantTaken checks that x is taken for the row l, and that all answers are those of l, and of its kind's layer.
func wantTaken(t *testing.T, x api.Vector, l []bool) {
	t.Helper()
	before := clone(x)
	own := layers()[x.Kind]
	if !vector.Check(x) {
		t.Fatalf("Check(%s) = false", short(x))
	}
	if b := vector.Bits(x); !sameRow(b, row(l)) || !sameRow(b, own.bits(x)) {
		t.Errorf("Bits(%s) = %d bits in %d words, not the row", short(x), b.N, len(b.W))
	}
	if got, want := vector.Size(x), own.size(x); got != want || got == 0 {
		t.Errorf("Size(%s) = %d, want %d", short(x), got, want)
	}
	wantAccess(t, x, l)
	for _, bit := range both {
		wantRank(t, x, bit, ahead(l, bit))
		wantSelect(t, x, bit, places(l, bit))
	}
	if !same(x, before) {
		t.Errorf("%s was changed to %s", short(before), short(x))
	}
}

func wantAccess(t *testing.T, x api.Vector, l []bool) {
	t.Helper()
	n := len(l)
	for _, i := range asked(n) {
		if bit, e := vector.Access(x, i); bit != l[i] || e != api.OK {
			t.Fatalf("Access(%s, %d) = %v, %d, want %v", short(x), i, bit, e, l[i])
		}
	}
	for _, i := range append(far(), n, n+1, n+64) {
		if bit, e := vector.Access(x, i); bit || e != api.ErrRange {
			t.Errorf("Access(%s, %d) = %v, %d, want ErrRange", short(x), i, bit, e)
		}
	}
}

// wantRank checks Rank against how many are ahead of each place, and of the end.
func wantRank(t *testing.T, x api.Vector, bit bool, want []int) {
	t.Helper()
	for _, i := range asked(len(want)) {
		if got, e := vector.Rank(x, bit, i); got != want[i] || e != api.OK {
			t.Fatalf("Rank(%s, %v, %d) = %d, %d, want %d", short(x), bit, i, got, e, want[i])
		}
	}
	for _, i := range append(far(), len(want), len(want)+1, len(want)+64) {
		if got, e := vector.Rank(x, bit, i); got != 0 || e != api.ErrRange {
			t.Errorf("Rank(%s, %v, %d) = %d, %d, want ErrRange", short(x), bit, i, got, e)
		}
	}
}

// wantSelect checks Select against the places of all bits that are bit.
func wantSelect(t *testing.T, x api.Vector, bit bool, want []int) {
	t.Helper()
	for _, k := range asked(len(want)) {
		if at, e := vector.Select(x, bit, k); at != want[k] || e != api.OK {
			t.Fatalf("Select(%s, %v, %d) = %d, %d, want %d", short(x), bit, k, at, e, want[k])
		}
	}
	for _, k := range append(far(), len(want), len(want)+1, len(want)+64) {
		if at, e := vector.Select(x, bit, k); at != 0 || e != api.ErrRange {
			t.Errorf("Select(%s, %v, %d) = %d, %d, want ErrRange", short(x), bit, k, at, e)
		}
	}
}

// wantRefused checks that x is taken for a value that may not be: ErrArg, whatever else is wrong, and zeros.
func wantRefused(t *testing.T, x api.Vector) {
	t.Helper()
	before := clone(x)
	if vector.Check(x) {
		t.Errorf("Check(%s) = true", short(x))
	}
	if b := vector.Bits(x); b.N != 0 || len(b.W) != 0 {
		t.Errorf("Bits(%s) = %d bits in %d words", short(x), b.N, len(b.W))
	}
	if n := vector.Size(x); n != 0 {
		t.Errorf("Size(%s) = %d", short(x), n)
	}
	for _, i := range []int{math.MinInt, -1, 0, 1, 64, math.MaxInt} {
		if bit, e := vector.Access(x, i); bit || e != api.ErrArg {
			t.Errorf("Access(%s, %d) = %v, %d", short(x), i, bit, e)
		}
		for _, bit := range both {
			if n, e := vector.Rank(x, bit, i); n != 0 || e != api.ErrArg {
				t.Errorf("Rank(%s, %v, %d) = %d, %d", short(x), bit, i, n, e)
			}
			if at, e := vector.Select(x, bit, i); at != 0 || e != api.ErrArg {
				t.Errorf("Select(%s, %v, %d) = %d, %d", short(x), bit, i, at, e)
			}
		}
	}
	if !same(x, before) {
		t.Errorf("%s was changed to %s", short(before), short(x))
	}
}

// The kinds are numbered as the document says.
func TestKinds(t *testing.T) {
	if api.KindPlain != 1 || api.KindRrr != 2 || api.KindFano != 3 {
		t.Errorf("the kinds are %d, %d, %d", api.KindPlain, api.KindRrr, api.KindFano)
	}
}

// P10.1 Build: what the kind's layer builds, and nothing else.
func TestBuild(t *testing.T) {
	for _, l := range slices.Concat(shortRows(), longRows()) {
		for _, kind := range kinds() {
			b := row(l)
			x, e := vector.Build(kind, b)
			if want := made(t, kind, l); e != api.OK || !same(x, want) {
				t.Errorf("Build(%d) = %s, %d, want %s", kind, short(x), e, short(want))
			}
			if !sameRow(b, row(l)) {
				t.Errorf("Build(%d) changed its %d bits", kind, len(l))
			}
		}
	}
}

// P10.1 Build: ErrConfig of a kind that is none, whatever the row.
func TestBuildOfNoKind(t *testing.T) {
	rows := append(wrongRows(), row(nil), row(mixed(1)), row(mixed(65)), row(half(1025)), row(but(most, -1, true)), row(but(most, -1, false)))
	for _, kind := range noKinds() {
		for _, b := range rows {
			if x, e := vector.Build(kind, b); e != api.ErrConfig || !same(x, api.Vector{}) {
				t.Errorf("Build(%d) of %d bits = %s, %d, want ErrConfig", kind, b.N, short(x), e)
			}
		}
	}
}

// P10.1 Build: the error of the kind's layer, with nothing beside it, not even the kind.
func TestBuildRefused(t *testing.T) {
	for _, kind := range kinds() {
		for _, b := range wrongRows() {
			before := api.Bits{N: b.N, W: slices.Clone(b.W)}
			if x, e := vector.Build(kind, b); e != api.ErrArg || !same(x, api.Vector{}) {
				t.Errorf("Build(%d) of %d bits in %d words = %s, %d", kind, b.N, len(b.W), short(x), e)
			}
			if !sameRow(b, before) {
				t.Errorf("Build(%d) changed %d bits in %d words", kind, b.N, len(b.W))
			}
		}
	}
	for _, l := range tooLongForFano() {
		if x, e := vector.Build(3, row(l)); e != api.ErrArg || !same(x, api.Vector{}) {
			t.Errorf("Build(3) of %d bits = %s, %d", len(l), short(x), e)
		}
		for _, kind := range []int{1, 2} {
			if x, want := built(t, kind, l), made(t, kind, l); !same(x, want) {
				t.Errorf("Build(%d) = %s, want %s", kind, short(x), short(want))
			}
		}
	}
}

// P10.1: all that is asked of what is built, or of what its layer made.
func TestAnswers(t *testing.T) {
	for _, kind := range kinds() {
		for _, l := range shortRows() {
			wantTaken(t, built(t, kind, l), l)
			wantTaken(t, made(t, kind, l), l)
		}
		for _, l := range longRows()[:4] {
			wantTaken(t, built(t, kind, l), l)
		}
	}
	for _, l := range tooLongForFano() {
		wantTaken(t, built(t, 1, l), l)
	}
	wantTaken(t, built(t, 2, half(most)), half(most))
}

// P10.1: what the values of one row of bits need is told by the kind.
func TestSizes(t *testing.T) {
	for _, c := range []struct {
		l    []bool
		want [4]int
	}{
		{nil, [4]int{1: 32, 2: 64, 3: 65}},
		// 64 bits, one number of Super, one of Sub; five blocks, one of them of class 1 with four bits of offset; w 6, High 3.
		{but(64, 0, true), [4]int{1: 64 + 32 + 16, 2: 5*4 + 4 + 64, 3: 6 + 3 + 64}},
		{but(64, -1, true), [4]int{1: 64 + 32 + 16, 2: 5*4 + 64, 3: 65 + 64}},
		// 3003 blocks of 15 bits have the 5 that the last one has: an offset of 12 bits. The others, of class 15, have none.
		{but(1025, -1, false), [4]int{1: 1025 + 3*32 + 17*16, 2: 69*4 + 12 + 9*64, 3: 2051 + 64}},
	} {
		for _, kind := range kinds() {
			if got, want := vector.Size(built(t, kind, c.l)), c.want[kind]; got != want {
				t.Errorf("Size of %d bits of kind %d = %d, want %d", len(c.l), kind, got, want)
			}
		}
	}
}

// P10.2: values of all kinds of the same bits answer alike, also where they refuse.
func TestKindsAlike(t *testing.T) {
	for _, l := range slices.Concat(shortRows(), longRows()[:1], longRows()[5:6]) {
		n := len(l)
		first := built(t, 1, l)
		for _, kind := range []int{2, 3} {
			x := built(t, kind, l)
			if !sameRow(vector.Bits(x), vector.Bits(first)) {
				t.Errorf("Bits(%s) are not those of kind 1", short(x))
			}
			for _, i := range append(asked(n), math.MinInt, -1, 0, n-1, n, n+1, math.MaxInt) {
				a, e := vector.Access(x, i)
				if b, f := vector.Access(first, i); a != b || e != f {
					t.Fatalf("Access(%s, %d) = %v, %d, of kind 1 %v, %d", short(x), i, a, e, b, f)
				}
				for _, bit := range both {
					a, e := vector.Rank(x, bit, i)
					if b, f := vector.Rank(first, bit, i); a != b || e != f {
						t.Fatalf("Rank(%s, %v, %d) = %d, %d, of kind 1 %d, %d", short(x), bit, i, a, e, b, f)
					}
					a, e = vector.Select(x, bit, i)
					if b, f := vector.Select(first, bit, i); a != b || e != f {
						t.Fatalf("Select(%s, %v, %d) = %d, %d, of kind 1 %d, %d", short(x), bit, i, a, e, b, f)
					}
				}
			}
		}
	}
}

// P10.1: values that no call made.
func TestZeroValues(t *testing.T) {
	for _, kind := range slices.Concat(kinds(), noKinds()) {
		wantRefused(t, api.Vector{Kind: kind})
		wantRefused(t, emptied(api.Vector{Kind: kind}))
	}
}

// P10.1 Check: a value whose kind is changed to another one, or to none.
func TestKindChanged(t *testing.T) {
	for _, l := range append(shortRows(), every(most, 1000)) {
		for _, kind := range kinds() {
			x := built(t, kind, l)
			for _, other := range slices.Concat(kinds(), noKinds()) {
				if other != kind {
					wantRefused(t, changed(x, func(y *api.Vector) { y.Kind = other }))
				}
			}
		}
	}
}

// otherOwn answers values like x of which one part of its own field is another. Some of them are Build of another row.
func otherOwn(x api.Vector) []api.Vector {
	var out []api.Vector
	p := partsOf(&x, x.Kind)
	for i, v := range p.numbers {
		for _, n := range []int{math.MinInt, -1, 0, 1, *v - 1, *v + 1, *v + 64, math.MaxInt} {
			out = append(out, changed(x, func(y *api.Vector) { *partsOf(y, x.Kind).numbers[i] = n }))
		}
	}
	for i, v := range p.words {
		for _, w := range [][]uint64{nil, {0}, append(slices.Clone(*v), 0), append(slices.Clone(*v), 1), (*v)[:max(0, len(*v)-1)], flipped(*v, 0), flipped(*v, 1), flipped(*v, 64*len(*v)-1)} {
			out = append(out, changed(x, func(y *api.Vector) { *partsOf(y, x.Kind).words[i] = w }))
		}
	}
	for i, v := range p.lists {
		for _, l := range [][]int{nil, {1}, append(slices.Clone(*v), 0), append(slices.Clone(*v), -1), (*v)[:max(0, len(*v)-1)], raised(*v, 0), raised(*v, len(*v)-1)} {
			out = append(out, changed(x, func(y *api.Vector) { *partsOf(y, x.Kind).lists[i] = l }))
		}
	}
	return out
}

// flipped answers words with one bit another, if there is such a bit.
func flipped(words []uint64, at int) []uint64 {
	out := slices.Clone(words)
	if at >= 0 && at < 64*len(out) {
		out[at/64] ^= 1 << (at % 64)
	}
	return out
}

// raised answers numbers of which one is greater by one, if there is such a one.
func raised(numbers []int, at int) []int {
	out := slices.Clone(numbers)
	if at >= 0 && at < len(out) {
		out[at]++
	}
	return out
}

// P10.1 Check: a value whose own field is another one is taken if, and only if, its layer takes that field.
func TestOwnFieldAnother(t *testing.T) {
	taken, refused := 0, 0
	for _, n := range []int{0, 1, 2, 15, 16, 63, 64, 65, 127, 128, 129, 1025} {
		for _, l := range [][]bool{but(n, -1, true), but(n, -1, false), but(n, 0, true), but(n, n-1, true), mixed(n), few(n)} {
			for _, kind := range kinds() {
				own := layers()[kind]
				for _, y := range otherOwn(made(t, kind, l)) {
					if own.check(y) {
						taken++
						wantTaken(t, y, listed(own.bits(y)))
					} else {
						refused++
						wantRefused(t, y)
					}
				}
			}
		}
	}
	if taken < 500 || refused < 5000 {
		t.Errorf("%d values are taken, %d are refused: both should be many", taken, refused)
	}
}

// withStranger answers values like x with one part of another kind's field that is not zero.
func withStranger(x api.Vector, other int) []api.Vector {
	var out []api.Vector
	p := partsOf(&x, other)
	for i := range p.numbers {
		for _, n := range []int{math.MinInt, -64, -1, 1, 2, 4, 64, 1 << 32, math.MaxInt} {
			out = append(out, changed(x, func(y *api.Vector) { *partsOf(y, other).numbers[i] = n }))
		}
	}
	for i := range p.words {
		for _, w := range [][]uint64{{0}, {1}, {1 << 63}, {0, 0}, {all, 0}} {
			out = append(out, changed(x, func(y *api.Vector) { *partsOf(y, other).words[i] = w }))
		}
	}
	for i := range p.lists {
		for _, l := range [][]int{{0}, {1}, {-1}, {0, 0}} {
			out = append(out, changed(x, func(y *api.Vector) { *partsOf(y, other).lists[i] = l }))
		}
	}
	return out
}

// P10.1 Check: a value that has something in a field of another kind may not be, whichever part of it.
func TestStrangers(t *testing.T) {
	for _, n := range []int{0, 1, 15, 16, 64, 65, 129, 1025} {
		for _, l := range [][]bool{but(n, -1, true), but(n, -1, false), mixed(n), few(n)} {
			for _, kind := range kinds() {
				x := made(t, kind, l)
				for _, other := range kinds() {
					if other == kind {
						continue
					}
					for _, y := range withStranger(x, other) {
						wantRefused(t, y)
					}
				}
			}
		}
	}
}

// P10.1 Check: a value that has the fields of two kinds, or of all, may not be, though each of them may, and be of the same bits, or of none.
func TestFieldsOfSeveralKinds(t *testing.T) {
	for _, l := range shortRows() {
		for _, m := range [][]bool{l, nil} {
			fields := [4]api.Vector{}
			for _, kind := range kinds() {
				fields[kind] = made(t, kind, m)
			}
			for _, kind := range kinds() {
				x := made(t, kind, l)
				whole := clone(x)
				for _, other := range kinds() {
					if other != kind {
						wantRefused(t, changed(x, func(y *api.Vector) { take(y, fields[other]) }))
						take(&whole, fields[other])
					}
				}
				wantRefused(t, whole)
			}
		}
	}
}

// take puts the field of the kind of y into x.
func take(x *api.Vector, y api.Vector) {
	switch y.Kind {
	case 1:
		x.Plain = y.Plain
	case 2:
		x.Rrr = y.Rrr
	case 3:
		x.Fano = y.Fano
	}
}

// emptied answers x with lists of no room in place of all that are nil.
func emptied(x api.Vector) api.Vector {
	return changed(x, func(y *api.Vector) {
		for _, kind := range kinds() {
			p := partsOf(y, kind)
			for _, w := range p.words {
				if *w == nil {
					*w = []uint64{}
				}
			}
			for _, l := range p.lists {
				if *l == nil {
					*l = []int{}
				}
			}
		}
	})
}

// roomy answers x with ones in the room behind the end of each of its lists, those that are empty with them.
func roomy(x api.Vector) api.Vector {
	return changed(x, func(y *api.Vector) {
		for _, kind := range kinds() {
			p := partsOf(y, kind)
			for _, w := range p.words {
				*w = slices.Concat(*w, []uint64{all, all})[:len(*w)]
			}
			for _, l := range p.lists {
				*l = slices.Concat(*l, []int{1, 1})[:len(*l)]
			}
		}
	})
}

// P10.1 Check and R3, R7: lists of other fields that are empty and not nil are zero, whatever stands in the room behind their end.
func TestEmptyLists(t *testing.T) {
	for _, kind := range kinds() {
		for _, l := range shortRows() {
			x := built(t, kind, l)
			wantTaken(t, emptied(x), l)
			y := roomy(x)
			wantTaken(t, y, l)
			wantRoom(t, y)
		}
	}
	for _, kind := range kinds() {
		for _, l := range [][]bool{nil, mixed(65), half(128)} {
			b := row(l)
			b.W = slices.Concat(b.W, []uint64{all, all})[:len(b.W)]
			if x, e := vector.Build(kind, b); e != api.OK || !same(x, made(t, kind, l)) {
				t.Errorf("Build(%d) of %d bits with room behind = %s, %d", kind, len(l), short(x), e)
			}
			if !slices.Equal(b.W[len(b.W):len(b.W)+2], []uint64{all, all}) {
				t.Errorf("Build(%d): the room behind %d bits was written to", kind, len(l))
			}
		}
	}
}

// wantRoom checks that the room that roomy made was not written to.
func wantRoom(t *testing.T, x api.Vector) {
	t.Helper()
	for _, kind := range kinds() {
		p := partsOf(&x, kind)
		for _, w := range p.words {
			if room := (*w)[len(*w) : len(*w)+2]; !slices.Equal(room, []uint64{all, all}) {
				t.Errorf("%s: the room behind words was written to: %#x", short(x), room)
			}
		}
		for _, l := range p.lists {
			if room := (*l)[len(*l) : len(*l)+2]; !slices.Equal(room, []int{1, 1}) {
				t.Errorf("%s: the room behind numbers was written to: %d", short(x), room)
			}
		}
	}
}

// R3: what is answered is memory of its own, also apart from what it was made of, and no two lists of one answer share any.
func TestSharesNothing(t *testing.T) {
	for _, l := range shortRows() {
		for _, kind := range kinds() {
			b := row(l)
			x, _ := vector.Build(kind, b)
			y, _ := vector.Build(kind, b)
			c, d := vector.Bits(x), vector.Bits(x)
			words, numbers := [][]uint64{b.W, c.W, d.W}, [][]int{}
			for _, v := range []*api.Vector{&x, &y} {
				for _, k := range kinds() {
					p := partsOf(v, k)
					for _, w := range p.words {
						words = append(words, *w)
					}
					for _, n := range p.lists {
						numbers = append(numbers, *n)
					}
				}
			}
			wantAlone(t, len(l), words)
			wantAlone(t, len(l), numbers)
		}
	}
}

// wantAlone checks that none of the lists is changed when another is, with all the room that they have.
func wantAlone[T int | uint64](t *testing.T, n int, lists [][]T) {
	t.Helper()
	for i := range lists {
		lists[i] = lists[i][:cap(lists[i])]
	}
	for i, l := range lists {
		var before [][]T
		for _, m := range lists {
			before = append(before, slices.Clone(m))
		}
		for j := range l {
			l[j] = ^l[j]
		}
		for k, m := range lists {
			if k != i && !slices.Equal(m, before[k]) {
				t.Errorf("%d bits: list %d shares its memory with list %d", n, i, k)
			}
		}
		copy(l, before[i])
	}
}

// The chapter's example: KindFano is built, and kind 4 is none.
func TestExample(t *testing.T) {
	b := api.Bits{N: 100, W: []uint64{0, 1 << 6}}
	x, e := vector.Build(api.KindFano, b)
	want := api.Vector{Kind: 3, Fano: api.Fano{N: 100, M: 1, Low: api.Ints{N: 1, Width: 6, Bits: api.Bits{N: 6, W: []uint64{6}}}, High: api.Bits{N: 3, W: []uint64{2}}}}
	if e != api.OK || !same(x, want) {
		t.Errorf("Build of KindFano = %s, %d, want %s", short(x), e, short(want))
	}
	if x, e := vector.Build(4, b); e != 5 || !same(x, api.Vector{}) {
		t.Errorf("Build of kind 4 = %s, %d", short(x), e)
	}
}
