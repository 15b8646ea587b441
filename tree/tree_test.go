package tree_test

import (
	"bytes"
	"fmt"
	"math"
	"slices"
	"testing"

	"haystack/api"
	"haystack/tree"
	"haystack/vector"
)

const longest = 1 << 13 // MaxText, written out as the document does

// kinds are the kinds that there are, by the numbers that the document gives them.
func kinds() []int {
	return []int{1, 2, 3}
}

// noKinds are numbers that are no kind.
func noKinds() []int {
	return []int{math.MinInt, math.MinInt + 1, -1 << 32, -3, -2, -1, 0, 4, 5, 255, 256, 257, 1<<32 + 1, 1<<32 + 2, math.MaxInt - 1, math.MaxInt}
}

// scattered answers n symbols of a fixed row that has all of them.
func scattered(n int) []byte {
	text := make([]byte, n)
	x := uint64(88172645463325252)
	for i := range text {
		x ^= x << 13
		x ^= x >> 7
		x ^= x << 17
		text[i] = byte(x >> 40)
	}
	return text
}

// few answers n symbols of a fixed row that has few of them, some far more often than others.
func few(n int) []byte {
	text := scattered(n)
	for i, c := range text {
		text[i] = "aaaaaaaabbbbccd\x00"[c%16]
	}
	return text
}

// rising answers n symbols, each of them the one that comes behind the one ahead; 0 comes behind 255.
func rising(n int) []byte {
	text := make([]byte, n)
	for i := range text {
		text[i] = byte(i)
	}
	return text
}

// falling answers those of rising from behind.
func falling(n int) []byte {
	text := rising(n)
	slices.Reverse(text)
	return text
}

// alone answers n times one symbol.
func alone(c byte, n int) []byte {
	return bytes.Repeat([]byte{c}, n)
}

// but answers n times one symbol, but for another one at a place.
func but(c byte, n int, other byte, place int) []byte {
	text := alone(c, n)
	text[place] = other
	return text
}

// texts are the short texts.
func texts() [][]byte {
	l := [][]byte{nil, {}, {0}, {255}, {97}, {0, 0}, {0, 255}, {255, 0}, {128, 127}, {127, 128}, []byte("abracadabra")}
	for _, n := range []int{63, 64, 65} {
		l = append(l, alone(0, n), alone(255, n), alone(113, n), scattered(n), few(n), rising(n), falling(n), but(0, n, 255, n-1), but(255, n, 0, 0))
	}
	for _, n := range []int{255, 256, 257, 300} {
		l = append(l, alone(113, n), scattered(n), few(n), rising(n), falling(n))
	}
	return append(l, alone(0, 300), alone(255, 300), but(64, 300, 65, 150))
}

// longTexts are texts of as many bytes as a text has at most.
func longTexts() [][]byte {
	return [][]byte{scattered(longest), few(longest), alone(255, longest), alone(0, longest), falling(longest), but(7, longest, 200, longest-1)}
}

// tooLong are texts that are longer than a text is.
func tooLong() [][]byte {
	return [][]byte{scattered(longest + 1), alone(0, longest+1), alone(255, longest+64), rising(2 * longest), rising(1 << 16)}
}

// far are places and counts far from every text.
func far() []int {
	return []int{math.MinInt, math.MinInt + 1, math.MinInt32, -longest, -2, -1, longest + 1, 1 << 20, math.MaxInt32, 1 << 32, math.MaxInt - longest, math.MaxInt - 1, math.MaxInt}
}

// walked answers row l of a text by the chapter's words: bit 7 - l of each symbol, the symbols ordered by their highest l bits as numbers, likes as in the text.
func walked(text []byte, l int) []bool {
	var bits []bool
	for highest := range 1 << l {
		for _, c := range text {
			if int(c)/(1<<(8-l)) == highest {
				bits = append(bits, int(c)/(1<<(7-l))%2 == 1)
			}
		}
	}
	return bits
}

// unwalked answers the symbols of which these rows tell, from row l on, those of the node of n symbols that begins at start, as they stand in the text.
// Those with the bit 0 stand first in the next row, at the same place.
func unwalked(rows [][]bool, l int, start int, n int) []byte {
	text := make([]byte, n)
	if l == len(rows) || n == 0 {
		return text
	}
	bits := rows[l][start : start+n]
	zeros := 0
	for _, bit := range bits {
		if !bit {
			zeros++
		}
	}
	left, right := unwalked(rows, l+1, start, zeros), unwalked(rows, l+1, start+zeros, n-zeros)
	for i, bit := range bits {
		if bit {
			text[i], right = right[0]|1<<(7-l), right[1:]
		} else {
			text[i], left = left[0], left[1:]
		}
	}
	return text
}

// row answers the row of the bits l.
func row(l []bool) api.Bits {
	b := api.Bits{N: len(l)}
	for i, x := range l {
		if i%64 == 0 {
			b.W = append(b.W, 0)
		}
		if x {
			b.W[i/64] += 1 << (i % 64)
		}
	}
	return b
}

// bitsOf answers the bits of a row that may be.
func bitsOf(x api.Vector) []bool {
	b := vector.Bits(x)
	l := make([]bool, b.N)
	for i := range l {
		l[i] = b.W[i/64]>>(i%64)&1 == 1
	}
	return l
}

// rowMade answers the bits l in a kind, made by layer 10.
func rowMade(t *testing.T, kind int, l []bool) api.Vector {
	t.Helper()
	x, e := vector.Build(kind, row(l))
	if e != api.OK {
		t.Fatalf("layer 10 refuses %d bits of kind %d: %d", len(l), kind, e)
	}
	return x
}

// madeOf answers the value of these rows, without the package that is tested.
func madeOf(t *testing.T, kind int, n int, rows [][]bool) api.Tree {
	t.Helper()
	x := api.Tree{Kind: kind, N: n}
	for _, l := range rows {
		x.Levels = append(x.Levels, rowMade(t, kind, l))
	}
	return x
}

// made answers the value of a text by the chapter's words, without the package that is tested.
func made(t *testing.T, kind int, text []byte) api.Tree {
	t.Helper()
	var rows [][]bool
	for l := range 8 {
		rows = append(rows, walked(text, l))
	}
	return madeOf(t, kind, len(text), rows)
}

// built answers Build of a text.
func built(t *testing.T, kind int, text []byte) api.Tree {
	t.Helper()
	x, e := tree.Build(kind, text)
	if e != api.OK {
		t.Fatalf("Build(%d) of %s: %d", kind, short(text), e)
	}
	return x
}

// told tells all of x: two values that are told alike are alike; nil and empty lists are.
func told(x api.Tree) string {
	return fmt.Sprintf("%v", x)
}

// short tells a text in few words.
func short(text []byte) string {
	return fmt.Sprintf("%d bytes %q..", len(text), text[:min(12, len(text))])
}

// brief tells a value in few words.
func brief(x api.Tree) string {
	all := told(x)
	return fmt.Sprintf("{kind %d, N %d, %d rows %s..}", x.Kind, x.N, len(x.Levels), all[:min(200, len(all))])
}

// wordsOf answers the lists of words that a row has.
func wordsOf(x *api.Vector) []*[]uint64 {
	return []*[]uint64{&x.Plain.Bits.W, &x.Rrr.Class.Bits.W, &x.Rrr.Off.W, &x.Fano.Low.Bits.W, &x.Fano.High.W}
}

// numbersOf answers the lists of numbers that a row has.
func numbersOf(x *api.Vector) []*[]int {
	return []*[]int{&x.Plain.Super, &x.Plain.Sub, &x.Rrr.Ones, &x.Rrr.Points}
}

// countsOf answers the numbers of a row that tell how long something is.
func countsOf(x *api.Vector) []*int {
	return []*int{&x.Kind, &x.Plain.Bits.N, &x.Rrr.N, &x.Rrr.Class.N, &x.Rrr.Class.Width, &x.Rrr.Class.Bits.N, &x.Rrr.Off.N, &x.Fano.N, &x.Fano.M, &x.Fano.Low.N, &x.Fano.Low.Width, &x.Fano.Low.Bits.N, &x.Fano.High.N}
}

func clone(x api.Tree) api.Tree {
	x.Levels = slices.Clone(x.Levels)
	for l := range x.Levels {
		for _, w := range wordsOf(&x.Levels[l]) {
			*w = slices.Clone(*w)
		}
		for _, n := range numbersOf(&x.Levels[l]) {
			*n = slices.Clone(*n)
		}
	}
	return x
}

// changed answers x with something changed by f, in lists of their own.
func changed(x api.Tree, f func(x *api.Tree)) api.Tree {
	y := clone(x)
	f(&y)
	return y
}

// places answers where each symbol stands in a text.
func places(text []byte) [256][]int {
	var l [256][]int
	for i, c := range text {
		l[c] = append(l[c], i)
	}
	return l
}

// asked are the places, or counts, at which n of them are asked: all of few; of many those at the ends and some others.
func asked(n int) []int {
	var l []int
	if n <= 12 {
		for i := range n {
			l = append(l, i)
		}
		return l
	}
	return []int{0, 1, n / 3, n / 2, n - 2, n - 1}
}

// symbols answers those that stand in a text, each that comes ahead of or behind one of them, and the least and the greatest; the longer the text, the fewer of these.
func symbols(text []byte) []byte {
	var stands [256]int
	for _, c := range text {
		for _, near := range []byte{c - 1, c, c + 1} {
			stands[near]++
		}
	}
	stands[0]++
	stands[255]++
	step := 1 + min(len(text)/65*5, 25)
	var l []byte
	for c, n := range stands {
		if n > 0 && (c%step == 0 || c >= 'a' && c <= 'e' || c == 255) {
			l = append(l, byte(c))
		}
	}
	return l
}

// wantTaken checks that x is taken for the text, and that all answers are those of the text.
func wantTaken(t *testing.T, x api.Tree, text []byte) {
	t.Helper()
	before := told(x)
	if !tree.Check(x) {
		t.Fatalf("Check(%s) = false", brief(x))
	}
	if got := tree.Text(x); !bytes.Equal(got, text) {
		t.Fatalf("Text(%s) = %s, want %s", brief(x), short(got), short(text))
	}
	size := 0
	for _, l := range x.Levels {
		size += vector.Size(l)
	}
	if got := tree.Size(x); got != size || got == 0 {
		t.Errorf("Size(%s) = %d, want %d", brief(x), got, size)
	}
	wantAccess(t, x, text)
	stands := places(text)
	for _, c := range symbols(text) {
		wantRank(t, x, c, text)
		wantSelect(t, x, c, stands[c])
	}
	if told(x) != before {
		t.Errorf("%s was changed to %s", before, brief(x))
	}
}

func wantAccess(t *testing.T, x api.Tree, text []byte) {
	t.Helper()
	n := len(text)
	for _, i := range asked(n) {
		if c, e := tree.Access(x, i); c != text[i] || e != api.OK {
			t.Fatalf("Access(%s, %d) = %d, %d, want %d", brief(x), i, c, e, text[i])
		}
	}
	for _, i := range append(far(), n, n+1) {
		if c, e := tree.Access(x, i); c != 0 || e != api.ErrRange {
			t.Errorf("Access(%s, %d) = %d, %d, want ErrRange", brief(x), i, c, e)
		}
	}
}

func wantRank(t *testing.T, x api.Tree, c byte, text []byte) {
	t.Helper()
	n := len(text)
	for _, i := range asked(n + 1) {
		want := bytes.Count(text[:i], []byte{c})
		if got, e := tree.Rank(x, c, i); got != want || e != api.OK {
			t.Fatalf("Rank(%s, %d, %d) = %d, %d, want %d", brief(x), c, i, got, e, want)
		}
	}
	for _, i := range []int{math.MinInt, -1, n + 1, math.MaxInt} {
		if got, e := tree.Rank(x, c, i); got != 0 || e != api.ErrRange {
			t.Errorf("Rank(%s, %d, %d) = %d, %d, want ErrRange", brief(x), c, i, got, e)
		}
	}
}

// wantSelect checks Select against all places where c stands.
func wantSelect(t *testing.T, x api.Tree, c byte, want []int) {
	t.Helper()
	for _, k := range asked(len(want)) {
		if at, e := tree.Select(x, c, k); at != want[k] || e != api.OK {
			t.Fatalf("Select(%s, %d, %d) = %d, %d, want %d", brief(x), c, k, at, e, want[k])
		}
	}
	for _, k := range []int{math.MinInt, -1, len(want), len(want) + 1, math.MaxInt} {
		if at, e := tree.Select(x, c, k); at != 0 || e != api.ErrRange {
			t.Errorf("Select(%s, %d, %d) = %d, %d, want ErrRange", brief(x), c, k, at, e)
		}
	}
}

// wantRefused checks that x is taken for a value that may not be: ErrArg, whatever else is wrong, and zeros.
func wantRefused(t *testing.T, x api.Tree) {
	t.Helper()
	before := told(x)
	if tree.Check(x) {
		t.Errorf("Check(%s) = true", brief(x))
	}
	if text := tree.Text(x); len(text) != 0 {
		t.Errorf("Text(%s) = %s", brief(x), short(text))
	}
	if n := tree.Size(x); n != 0 {
		t.Errorf("Size(%s) = %d", brief(x), n)
	}
	for _, i := range []int{math.MinInt, -1, 0, x.N, math.MaxInt} {
		if c, e := tree.Access(x, i); c != 0 || e != api.ErrArg {
			t.Errorf("Access(%s, %d) = %d, %d", brief(x), i, c, e)
		}
		for _, c := range []byte{0, 'a', 255} {
			if n, e := tree.Rank(x, c, i); n != 0 || e != api.ErrArg {
				t.Errorf("Rank(%s, %d, %d) = %d, %d", brief(x), c, i, n, e)
			}
			if at, e := tree.Select(x, c, i); at != 0 || e != api.ErrArg {
				t.Errorf("Select(%s, %d, %d) = %d, %d", brief(x), c, i, at, e)
			}
		}
	}
	if told(x) != before {
		t.Errorf("%s was changed to %s", before, brief(x))
	}
}

// What the document says in numbers is what api has.
func TestNumbers(t *testing.T) {
	if api.MaxText != longest || api.KindPlain != 1 || api.KindRrr != 2 || api.KindFano != 3 || api.ErrArg != 2 || api.ErrRange != 3 || api.ErrLong != 4 || api.ErrConfig != 5 {
		t.Error("a limit, a kind or an error has another number")
	}
}

// P12.1 Build: eight rows, each of them as the chapter's words have it.
func TestBuild(t *testing.T) {
	for _, text := range slices.Concat(texts(), longTexts()) {
		for _, kind := range kinds() {
			given := slices.Clone(text)
			x, e := tree.Build(kind, given)
			if want := made(t, kind, text); e != api.OK || told(x) != told(want) {
				t.Errorf("Build(%d) of %s = %s, %d, want %s", kind, short(text), brief(x), e, brief(want))
			}
			if len(x.Levels) != 8 {
				t.Errorf("Build(%d) of %s has %d rows", kind, short(text), len(x.Levels))
			}
			if !bytes.Equal(given, text) {
				t.Errorf("Build(%d) changed %s", kind, short(text))
			}
		}
	}
}

// P12.1 Build: the rows of a text, written out.
func TestRowsWrittenOut(t *testing.T) {
	want := []string{
		"00000000000", "11111111111", "11111111111",
		"00100000010", // abracadabra: r, r
		"00000000000", // abacadaba rr
		"00000100000", // abacadaba rr: d
		"01010010011", // abacaaba d rr: b, c, b, r, r
		"11111010000", // aaaaa bcb d rr: a, c
	}
	for _, kind := range kinds() {
		x := built(t, kind, []byte("abracadabra"))
		for l := range want {
			got := ""
			for _, bit := range bitsOf(x.Levels[l]) {
				got += map[bool]string{false: "0", true: "1"}[bit]
			}
			if got != want[l] || x.Levels[l].Kind != kind {
				t.Errorf("row %d of kind %d is %s of kind %d, want %s", l, kind, got, x.Levels[l].Kind, want[l])
			}
		}
	}
}

// P12.1 Build: ErrLong, named first: whichever the kind, also where there is none such.
func TestBuildOfTooLong(t *testing.T) {
	for _, text := range tooLong() {
		for _, kind := range slices.Concat(kinds(), noKinds()) {
			given := slices.Clone(text)
			if x, e := tree.Build(kind, given); e != api.ErrLong || told(x) != told(api.Tree{}) {
				t.Errorf("Build(%d) of %s = %s, %d, want ErrLong", kind, short(text), brief(x), e)
			}
			if !bytes.Equal(given, text) {
				t.Errorf("Build(%d) changed %s", kind, short(text))
			}
		}
	}
}

// P12.1 Build: layer 10's error, with nothing beside it, whatever the text.
func TestBuildOfNoKind(t *testing.T) {
	for _, text := range slices.Concat(texts(), longTexts()) {
		for _, kind := range noKinds() {
			if x, e := tree.Build(kind, text); e != api.ErrConfig || told(x) != told(api.Tree{}) {
				t.Errorf("Build(%d) of %s = %s, %d, want ErrConfig", kind, short(text), brief(x), e)
			}
		}
	}
}

// P12.1, P12.2 and P12.3: what is built may be, its text is the text, and all that is asked of it is told by that.
func TestAnswers(t *testing.T) {
	for _, text := range slices.Concat(texts(), longTexts()[:3]) {
		for _, kind := range kinds() {
			wantTaken(t, built(t, kind, text), text)
		}
	}
	for _, kind := range kinds() {
		wantTaken(t, made(t, kind, []byte("abracadabra")), []byte("abracadabra"))
		for _, text := range longTexts()[3:] {
			if x := built(t, kind, text); !tree.Check(x) || !bytes.Equal(tree.Text(x), text) {
				t.Errorf("of kind %d, %s is not taken", kind, short(text))
			}
		}
	}
}

// P12.2: all places and counts of all symbols.
func TestAllAsked(t *testing.T) {
	for _, text := range [][]byte{[]byte("abracadabra"), scattered(70), few(130), falling(256), scattered(300)} {
		stands := places(text)
		for _, kind := range kinds() {
			x := built(t, kind, text)
			for c := range 256 {
				for k, want := range stands[c] {
					if at, e := tree.Select(x, byte(c), k); at != want || e != api.OK {
						t.Fatalf("Select(%s, %d, %d) = %d, %d, want %d", brief(x), c, k, at, e, want)
					}
				}
				if at, e := tree.Select(x, byte(c), len(stands[c])); at != 0 || e != api.ErrRange {
					t.Fatalf("Select(%s, %d, %d) = %d, %d, want ErrRange", brief(x), c, len(stands[c]), at, e)
				}
			}
			for i := range len(text) + 1 {
				for c := i % 11; c < 256; c += 11 { // other symbols at each place
					want := bytes.Count(text[:i], []byte{byte(c)})
					if got, e := tree.Rank(x, byte(c), i); got != want || e != api.OK {
						t.Fatalf("Rank(%s, %d, %d) = %d, %d, want %d", brief(x), c, i, got, e, want)
					}
				}
			}
			for i, want := range text {
				if c, e := tree.Access(x, i); c != want || e != api.OK {
					t.Fatalf("Access(%s, %d) = %d, %d, want %d", brief(x), i, c, e, want)
				}
			}
		}
	}
}

// P12.3: all texts of one symbol, and all of two and three of some symbols.
func TestShortestTexts(t *testing.T) {
	some := []byte{0, 1, 85, 127, 128, 170, 254, 255}
	for _, kind := range kinds() {
		for c := range 256 {
			text := []byte{byte(c)}
			wantBuilt(t, made(t, kind, text), text)
			wantAccess(t, built(t, kind, text), text)
		}
		for _, a := range some {
			for _, b := range some {
				text := []byte{a, b}
				wantTaken(t, built(t, kind, text), text)
				for _, c := range some {
					text := []byte{a, b, c}
					wantBuilt(t, made(t, kind, text), text)
				}
			}
		}
	}
}

// P12.1 Size: some sums written out.
func TestSizes(t *testing.T) {
	for _, c := range []struct {
		text []byte
		want [4]int
	}{
		{nil, [4]int{1: 8 * 32, 2: 8 * 64, 3: 8 * 65}},
		// One bit, a number of Super, one of Sub; one block of class 0; High 2, as w is 0.
		{[]byte{0}, [4]int{1: 8 * (1 + 32 + 16), 2: 8 * (4 + 64), 3: 8 * (2 + 64)}},
		// A block of one bit 1 is one of 15: four bits of offset. High 3.
		{[]byte{255}, [4]int{1: 8 * (1 + 32 + 16), 2: 8 * (4 + 4 + 64), 3: 8 * (3 + 64)}},
		// One row of 64 bits 1, of which the last block has 4 (1365 of them: 11 bits), and seven of bits 0.
		{alone(16, 64), [4]int{1: 8 * (64 + 32 + 16), 2: 8*(5*4+64) + 11, 3: 7*(65+64) + 129 + 64}},
	} {
		for _, kind := range kinds() {
			if got := tree.Size(built(t, kind, c.text)); got != c.want[kind] {
				t.Errorf("Size of %s of kind %d = %d, want %d", short(c.text), kind, got, c.want[kind])
			}
		}
	}
}

// P12.1 Check: a value that no call made.
func TestZeroValues(t *testing.T) {
	wantRefused(t, api.Tree{})
	for _, kind := range slices.Concat(kinds(), noKinds()) {
		for _, count := range []int{0, 1, 7, 8, 9} {
			x := api.Tree{Kind: kind, Levels: make([]api.Vector, count)}
			wantRefused(t, x)
			for l := range x.Levels {
				x.Levels[l].Kind = kind
			}
			wantRefused(t, x)
		}
	}
}

// P12.1 Check: rows that are too few, or too many, are those of no text.
func TestRowsMissing(t *testing.T) {
	for _, text := range texts() {
		for _, kind := range kinds() {
			x := built(t, kind, text)
			for count := range 8 {
				wantRefused(t, changed(x, func(y *api.Tree) { y.Levels = y.Levels[:count] })) // the room behind holds the others
				wantRefused(t, changed(x, func(y *api.Tree) { y.Levels = y.Levels[8-count:] }))
			}
			wantRefused(t, changed(x, func(y *api.Tree) { y.Levels = nil }))
			wantRefused(t, changed(x, func(y *api.Tree) { y.Levels = append(y.Levels, y.Levels[7]) }))
			wantRefused(t, changed(x, func(y *api.Tree) { y.Levels = append(y.Levels, api.Vector{}) }))
			wantRefused(t, changed(x, func(y *api.Tree) { y.Levels = append(y.Levels, y.Levels...) }))
		}
	}
	wantRefused(t, api.Tree{Kind: 1, Levels: slices.Repeat(built(t, 1, nil).Levels[:1], 1<<12)})
}

// P12.1 Check: a value of another kind, or of another length, than its rows.
func TestKindOrLengthAnother(t *testing.T) {
	for _, text := range slices.Concat(texts(), longTexts()[:1]) {
		n := len(text)
		for _, kind := range kinds() {
			x := built(t, kind, text)
			for _, other := range slices.Concat(kinds(), noKinds()) {
				if other != kind {
					wantRefused(t, changed(x, func(y *api.Tree) { y.Kind = other }))
				}
			}
			for _, other := range append(far(), n-1, n+1, n+64, 2*n+1) {
				if other != n {
					wantRefused(t, changed(x, func(y *api.Tree) { y.N = other }))
				}
			}
		}
	}
}

// P12.1 Check: a value one of whose rows is not of its kind, or not of its length, or is none.
func TestRowAnother(t *testing.T) {
	for _, text := range [][]byte{nil, {97}, []byte("abracadabra"), scattered(64), few(300)} {
		for _, kind := range kinds() {
			x := built(t, kind, text)
			for l := range 8 {
				bits := walked(text, l)
				others := []api.Vector{{}, {Kind: kind}, rowMade(t, kind, append(slices.Clone(bits), false)), rowMade(t, kind, append(slices.Clone(bits), true))}
				if len(bits) > 0 {
					others = append(others, rowMade(t, kind, bits[1:]), rowMade(t, kind, nil))
				}
				for _, other := range kinds() {
					if other != kind {
						others = append(others, rowMade(t, other, bits))
					}
				}
				for _, other := range others {
					wantRefused(t, changed(x, func(y *api.Tree) { y.Levels[l] = other }))
				}
			}
		}
	}
}

// P12.1 Check: rows that are all longer, or all shorter, than N says; and all longer than a text is.
func TestAllRowsAnother(t *testing.T) {
	for _, kind := range kinds() {
		for _, n := range []int{0, 1, 64, 300, longest - 1, longest, longest + 1, longest + 64} {
			rows := slices.Repeat([][]bool{make([]bool, n)}, 8)
			for _, other := range []int{n - 1, n + 1} {
				wantRefused(t, madeOf(t, kind, other, rows))
			}
			x := madeOf(t, kind, n, rows)
			if n > longest {
				wantRefused(t, x)
			} else if !tree.Check(x) || !bytes.Equal(tree.Text(x), alone(0, n)) {
				t.Errorf("%d symbols 0 of kind %d are not taken", n, kind)
			}
		}
	}
}

// wantBuilt checks that x is taken, and just what Build answers of the text: then it answers as that does.
func wantBuilt(t *testing.T, x api.Tree, text []byte) {
	t.Helper()
	if got := tree.Text(x); !tree.Check(x) || !bytes.Equal(got, text) {
		t.Fatalf("%s is not taken for %s, but for %s", brief(x), short(text), short(got))
	}
	if y := built(t, x.Kind, text); told(y) != told(x) {
		t.Errorf("%s is taken, but not Build of its text: %s", brief(x), brief(y))
	}
}

// wantAsRows checks that x, some of whose rows are changed, is refused, if one of them is none that layer 10 takes, or not of N bits; else it is Build of another text. It answers whether it is.
func wantAsRows(t *testing.T, x api.Tree) bool {
	t.Helper()
	var rows [][]bool
	for _, l := range x.Levels {
		bits := bitsOf(l)
		if !vector.Check(l) || len(bits) != x.N {
			wantRefused(t, x)
			return false
		}
		rows = append(rows, bits)
	}
	text := unwalked(rows, 0, 0, x.N)
	wantBuilt(t, x, text)
	return true
}

// P12.1 Check: values of which one bit of a row is changed, whether within it, behind its end, or in what stands beside it.
func TestOneBitAnother(t *testing.T) {
	taken, refused := 0, 0
	for _, text := range [][]byte{{97}, []byte("abracadabra"), scattered(65), few(130)} {
		for _, kind := range kinds() {
			x := built(t, kind, text)
			for l := range 8 {
				for i, words := range wordsOf(&x.Levels[l]) {
					for at := l % 5; at < 64*len(*words); at += 5 {
						y := changed(x, func(y *api.Tree) { (*wordsOf(&y.Levels[l])[i])[at/64] ^= 1 << (at % 64) })
						if wantAsRows(t, y) {
							taken++
						} else {
							refused++
						}
					}
				}
			}
		}
	}
	if taken < 100 || refused < 500 {
		t.Errorf("%d values are taken, %d are refused: both should be many", taken, refused)
	}
}

// P12.1 Check: values of which one number, or one list, of a row is changed.
func TestOneNumberAnother(t *testing.T) {
	refused := 0
	count := func(y api.Tree) {
		if !wantAsRows(t, y) {
			refused++
		}
	}
	for _, text := range [][]byte{nil, {255}, []byte("abracadabra"), scattered(130)} {
		for _, kind := range kinds() {
			x := built(t, kind, text)
			for l := range 8 {
				for i, number := range countsOf(&x.Levels[l]) {
					for _, n := range []int{math.MinInt, -1, *number - 1, *number + 1, math.MaxInt} {
						count(changed(x, func(y *api.Tree) { *countsOf(&y.Levels[l])[i] = n }))
					}
				}
				for i, numbers := range numbersOf(&x.Levels[l]) {
					count(changed(x, func(y *api.Tree) { n := numbersOf(&y.Levels[l])[i]; *n = append(*n, 0) }))
					for j := range *numbers {
						count(changed(x, func(y *api.Tree) { (*numbersOf(&y.Levels[l])[i])[j]++ }))
					}
				}
				for i := range wordsOf(&x.Levels[l]) {
					count(changed(x, func(y *api.Tree) { w := wordsOf(&y.Levels[l])[i]; *w = append(*w, 0) }))
				}
			}
		}
	}
	if refused < 5000 {
		t.Errorf("%d values are refused: they should be many", refused)
	}
}

// P12.1 Check: two rows exchanged, or one in place of another, are rows of that kind and length still: it is Build of another text, and taken for that.
func TestRowsExchanged(t *testing.T) {
	for _, text := range [][]byte{nil, {97}, []byte("abracadabra"), scattered(64)} {
		for _, kind := range kinds() {
			x := built(t, kind, text)
			for a := range 8 {
				for b := range a {
					if !wantAsRows(t, changed(x, func(y *api.Tree) { y.Levels[a], y.Levels[b] = y.Levels[b], y.Levels[a] })) {
						t.Errorf("of %s rows %d and %d exchanged are refused", short(text), a, b)
					}
					if !wantAsRows(t, changed(x, func(y *api.Tree) { y.Levels[a] = y.Levels[b] })) {
						t.Errorf("of %s row %d in place of %d is refused", short(text), b, a)
					}
				}
			}
		}
	}
}

// R3: nil and empty lists are the same.
func TestEmptyLists(t *testing.T) {
	for _, kind := range kinds() {
		for _, text := range [][]byte{nil, []byte("abracadabra")} {
			wantTaken(t, changed(built(t, kind, text), func(x *api.Tree) {
				for l := range x.Levels {
					for _, w := range wordsOf(&x.Levels[l]) {
						*w = append(make([]uint64, 0, 2), *w...)
					}
					for _, n := range numbersOf(&x.Levels[l]) {
						*n = append(make([]int, 0, 2), *n...)
					}
				}
			}), text)
		}
		if a, b := built(t, kind, nil), built(t, kind, []byte{}); told(a) != told(b) {
			t.Errorf("Build(%d) of nil is %s, of an empty text %s", kind, told(a), told(b))
		}
	}
}

// R3: what is built shares nothing with the text, nor with what stands behind its end.
func TestTextGiven(t *testing.T) {
	for _, kind := range kinds() {
		for _, n := range []int{0, 1, 64, 299} {
			room := scattered(300)
			x := built(t, kind, room[:n])
			if !bytes.Equal(room, scattered(300)) {
				t.Errorf("Build(%d) changed its text of %d bytes, or what is behind", kind, n)
			}
			want := told(x)
			clear(room)
			if told(x) != want {
				t.Errorf("Build(%d) of %d bytes shares memory with its text", kind, n)
			}
		}
	}
}

// R3: the lists of what is built share nothing with one another.
func TestListsApart(t *testing.T) {
	for _, kind := range kinds() {
		for _, text := range [][]byte{nil, []byte("abracadabra"), alone(97, 300), scattered(300)} {
			x, other := built(t, kind, text), built(t, kind, text)
			want := told(other)
			for l := range x.Levels {
				for i, w := range wordsOf(&x.Levels[l]) {
					for j := range *w {
						(*w)[j] = uint64(100*l + i)
					}
				}
				for i, n := range numbersOf(&x.Levels[l]) {
					for j := range *n {
						(*n)[j] = 100*l + i
					}
				}
			}
			for l := range x.Levels {
				for i, w := range wordsOf(&x.Levels[l]) {
					if slices.ContainsFunc(*w, func(v uint64) bool { return v != uint64(100*l+i) }) {
						t.Errorf("words %d of row %d of kind %d are those of another", i, l, kind)
					}
				}
				for i, n := range numbersOf(&x.Levels[l]) {
					if slices.ContainsFunc(*n, func(v int) bool { return v != 100*l+i }) {
						t.Errorf("numbers %d of row %d of kind %d are those of another", i, l, kind)
					}
				}
			}
			if told(other) != want {
				t.Errorf("two values of kind %d of one text share memory", kind)
			}
		}
	}
}

// R3: the text that is answered is the caller's own.
func TestTextAnswered(t *testing.T) {
	for _, kind := range kinds() {
		for _, text := range [][]byte{[]byte("abracadabra"), scattered(300)} {
			x := built(t, kind, text)
			want := told(x)
			first, second := tree.Text(x), tree.Text(x)
			for i := range first {
				first[i] ^= 255
			}
			if !bytes.Equal(second, text) || !bytes.Equal(tree.Text(x), text) || told(x) != want {
				t.Errorf("Text of kind %d shares memory", kind)
			}
		}
	}
}

// The chapter's example.
func TestExample(t *testing.T) {
	for _, kind := range kinds() {
		if n, e := tree.Rank(built(t, kind, []byte("abracadabra")), 'a', 8); n != 4 || e != api.OK {
			t.Errorf("of kind %d: Rank of a, 8 = %d, %d", kind, n, e)
		}
	}
}
