package matrix_test

import (
	"bytes"
	"fmt"
	"math"
	"slices"
	"testing"

	"haystack/api"
	"haystack/matrix"
	"haystack/vector"
)

const longest = 1 << 13 // MaxText, written out as the document does

// kinds are the kinds that there are, by the numbers that the document gives them.
func kinds() []int {
	return []int{1, 2, 3}
}

// noKinds are numbers that are no kind.
func noKinds() []int {
	return []int{math.MinInt, math.MinInt + 1, -1 << 32, -3, -2, -1, 0, 4, 5, 255, 256, 257, 1<<32 + 1, 1<<32 + 2, math.MaxInt - 1, math.MaxInt}
}

// scattered answers n symbols of a fixed row that has all of them.
func scattered(n int) []byte {
	text := make([]byte, n)
	x := uint64(88172645463325252)
	for i := range text {
		x ^= x << 13
		x ^= x >> 7
		x ^= x << 17
		text[i] = byte(x >> 40)
	}
	return text
}

// few answers n symbols of a fixed row that has few of them, some far more often than others.
func few(n int) []byte {
	text := scattered(n)
	for i, c := range text {
		text[i] = "aaaaaaaabbbbccd\x00"[c%16]
	}
	return text
}

// rising answers n symbols, each of them the one that comes behind the one ahead; 0 comes behind 255.
func rising(n int) []byte {
	text := make([]byte, n)
	for i := range text {
		text[i] = byte(i)
	}
	return text
}

// falling answers those of rising from behind.
func falling(n int) []byte {
	text := rising(n)
	slices.Reverse(text)
	return text
}

// alone answers n times one symbol.
func alone(c byte, n int) []byte {
	return bytes.Repeat([]byte{c}, n)
}

// but answers n times one symbol, but for another one at a place.
func but(c byte, n int, other byte, place int) []byte {
	text := alone(c, n)
	text[place] = other
	return text
}

// turns answers n symbols, two that take turns.
func turns(a byte, b byte, n int) []byte {
	return bytes.Repeat([]byte{a, b}, (n+1)/2)[:n]
}

// texts are the short texts.
func texts() [][]byte {
	l := [][]byte{nil, {}, {0}, {255}, {97}, {0, 0}, {0, 255}, {255, 0}, {128, 127}, {127, 128}, {0, 0, 0}, {1, 0, 128}, {255, 64, 191}, {97, 98, 97}, []byte("abracadabra")}
	for _, n := range []int{63, 64, 65} {
		l = append(l, alone(0, n), alone(255, n), alone(113, n), scattered(n), few(n), rising(n), falling(n), but(0, n, 255, n-1), but(255, n, 0, 0), turns(1, 128, n))
	}
	for _, n := range []int{255, 256, 257, 300} {
		l = append(l, alone(113, n), scattered(n), few(n), rising(n), falling(n))
	}
	return append(l, alone(0, 300), alone(255, 300), but(64, 300, 65, 150), turns(200, 7, 257))
}

// longTexts are texts of as many bytes as a text has at most.
func longTexts() [][]byte {
	return [][]byte{scattered(longest), few(longest), alone(255, longest), alone(0, longest), falling(longest), but(7, longest, 200, longest-1)}
}

// tooLong are texts that are longer than a text is.
func tooLong() [][]byte {
	return [][]byte{scattered(longest + 1), alone(0, longest+1), alone(255, longest+64), rising(2 * longest), rising(1 << 16)}
}

// far are places and counts far from every text.
func far() []int {
	return []int{math.MinInt, math.MinInt + 1, math.MinInt32, -longest, -2, -1, longest + 1, 1 << 20, math.MaxInt32, 1 << 32, math.MaxInt - longest, math.MaxInt - 1, math.MaxInt}
}

// standing answers the symbols as they stand in row l by the chapter's words: in row 0 as in the text; in each other one those whose bit in the row ahead is 0, in order, then those whose bit is 1.
func standing(text []byte, l int) []byte {
	if l == 0 {
		return text
	}
	var symbols []byte
	for bit := range 2 {
		for _, c := range standing(text, l-1) {
			if int(c)/(1<<(8-l))%2 == bit { // row l - 1 has bit 7 - (l - 1)
				symbols = append(symbols, c)
			}
		}
	}
	return symbols
}

// walked answers row l of a text by the chapter's words: bit 7 - l of each symbol.
func walked(text []byte, l int) []bool {
	var bits []bool
	for _, c := range standing(text, l) {
		bits = append(bits, int(c)/(1<<(7-l))%2 == 1)
	}
	return bits
}

// noughts answers how many of the bits l are 0.
func noughts(l []bool) int {
	n := 0
	for _, bit := range l {
		if !bit {
			n++
		}
	}
	return n
}

// unwalked answers the text of n symbols of which these eight rows tell. The last one is undone first.
func unwalked(rows [][]bool, n int) []byte {
	text := make([]byte, n)
	for l := 7; l >= 0; l-- {
		behind := text
		text = make([]byte, n)
		off, on := 0, noughts(rows[l])
		for i, bit := range rows[l] {
			if bit {
				text[i] = behind[on] | 1<<(7-l)
				on++
			} else {
				text[i] = behind[off]
				off++
			}
		}
	}
	return text
}

// row answers the row of the bits l.
func row(l []bool) api.Bits {
	b := api.Bits{N: len(l)}
	for i, x := range l {
		if i%64 == 0 {
			b.W = append(b.W, 0)
		}
		if x {
			b.W[i/64] += 1 << (i % 64)
		}
	}
	return b
}

// bitsOf answers the bits of a row that may be.
func bitsOf(x api.Vector) []bool {
	b := vector.Bits(x)
	l := make([]bool, b.N)
	for i := range l {
		l[i] = b.W[i/64]>>(i%64)&1 == 1
	}
	return l
}

// rowMade answers the bits l in a kind, made by layer 10.
func rowMade(t *testing.T, kind int, l []bool) api.Vector {
	t.Helper()
	x, e := vector.Build(kind, row(l))
	if e != api.OK {
		t.Fatalf("layer 10 refuses %d bits of kind %d: %d", len(l), kind, e)
	}
	return x
}

// madeOf answers the value of these rows, without the package that is tested.
func madeOf(t *testing.T, kind int, n int, rows [][]bool) api.Matrix {
	t.Helper()
	x := api.Matrix{Kind: kind, N: n}
	for _, l := range rows {
		x.Levels = append(x.Levels, rowMade(t, kind, l))
		x.Zeros = append(x.Zeros, noughts(l))
	}
	return x
}

// made answers the value of a text by the chapter's words, without the package that is tested.
func made(t *testing.T, kind int, text []byte) api.Matrix {
	t.Helper()
	var rows [][]bool
	for l := range 8 {
		rows = append(rows, walked(text, l))
	}
	return madeOf(t, kind, len(text), rows)
}

// built answers Build of a text.
func built(t *testing.T, kind int, text []byte) api.Matrix {
	t.Helper()
	x, e := matrix.Build(kind, text)
	if e != api.OK {
		t.Fatalf("Build(%d) of %s: %d", kind, short(text), e)
	}
	return x
}

// told tells all of x: two values that are told alike are alike; nil and empty lists are.
func told(x api.Matrix) string {
	return fmt.Sprintf("%v", x)
}

// short tells a text in few words.
func short(text []byte) string {
	return fmt.Sprintf("%d bytes %q..", len(text), text[:min(12, len(text))])
}

// brief tells a value in few words.
func brief(x api.Matrix) string {
	all := told(x)
	return fmt.Sprintf("{kind %d, N %d, zeros %v, %d rows %s..}", x.Kind, x.N, x.Zeros[:min(12, len(x.Zeros))], len(x.Levels), all[:min(200, len(all))])
}

// wordsOf answers the lists of words that a row has.
func wordsOf(x *api.Vector) []*[]uint64 {
	return []*[]uint64{&x.Plain.Bits.W, &x.Rrr.Class.Bits.W, &x.Rrr.Off.W, &x.Fano.Low.Bits.W, &x.Fano.High.W}
}

// numbersOf answers the lists of numbers that a row has.
func numbersOf(x *api.Vector) []*[]int {
	return []*[]int{&x.Plain.Super, &x.Plain.Sub, &x.Rrr.Ones, &x.Rrr.Points}
}

// countsOf answers the numbers of a row that tell how long something is.
func countsOf(x *api.Vector) []*int {
	return []*int{&x.Kind, &x.Plain.Bits.N, &x.Rrr.N, &x.Rrr.Class.N, &x.Rrr.Class.Width, &x.Rrr.Class.Bits.N, &x.Rrr.Off.N, &x.Fano.N, &x.Fano.M, &x.Fano.Low.N, &x.Fano.Low.Width, &x.Fano.Low.Bits.N, &x.Fano.High.N}
}

func clone(x api.Matrix) api.Matrix {
	x.Levels, x.Zeros = slices.Clone(x.Levels), slices.Clone(x.Zeros)
	for l := range x.Levels {
		for _, w := range wordsOf(&x.Levels[l]) {
			*w = slices.Clone(*w)
		}
		for _, n := range numbersOf(&x.Levels[l]) {
			*n = slices.Clone(*n)
		}
	}
	return x
}

// changed answers x with something changed by f, in lists of their own.
func changed(x api.Matrix, f func(x *api.Matrix)) api.Matrix {
	y := clone(x)
	f(&y)
	return y
}

// counted answers x with Zeros as its rows have noughts.
func counted(x api.Matrix) api.Matrix {
	return changed(x, func(y *api.Matrix) {
		for l := range y.Zeros {
			y.Zeros[l] = noughts(bitsOf(y.Levels[l]))
		}
	})
}

// places answers where each symbol stands in a text.
func places(text []byte) [256][]int {
	var l [256][]int
	for i, c := range text {
		l[c] = append(l[c], i)
	}
	return l
}

// asked are the places, or counts, at which n of them are asked: all of few; of many those at the ends and some others.
func asked(n int) []int {
	var l []int
	if n <= 12 {
		for i := range n {
			l = append(l, i)
		}
		return l
	}
	return []int{0, 1, n / 3, n / 2, n - 2, n - 1}
}

// symbols answers those that stand in a text, each that comes ahead of or behind one of them, and the least and the greatest; the longer the text, the fewer of these.
func symbols(text []byte) []byte {
	var stands [256]int
	for _, c := range text {
		for _, near := range []byte{c - 1, c, c + 1} {
			stands[near]++
		}
	}
	stands[0]++
	stands[255]++
	step := 1 + min(len(text)/65*5, 25)
	var l []byte
	for c, n := range stands {
		if n > 0 && (c%step == 0 || c >= 'a' && c <= 'e' || c == 255) {
			l = append(l, byte(c))
		}
	}
	return l
}

// wantTaken checks that x is taken for the text, and that all answers are those of the text.
func wantTaken(t *testing.T, x api.Matrix, text []byte) {
	t.Helper()
	before := told(x)
	if !matrix.Check(x) {
		t.Fatalf("Check(%s) = false", brief(x))
	}
	if got := matrix.Text(x); !bytes.Equal(got, text) {
		t.Fatalf("Text(%s) = %s, want %s", brief(x), short(got), short(text))
	}
	size := 8 * 32
	for _, l := range x.Levels {
		size += vector.Size(l)
	}
	if got := matrix.Size(x); got != size {
		t.Errorf("Size(%s) = %d, want %d", brief(x), got, size)
	}
	wantAccess(t, x, text)
	stands := places(text)
	for _, c := range symbols(text) {
		wantRank(t, x, c, text)
		wantSelect(t, x, c, stands[c])
	}
	if told(x) != before {
		t.Errorf("%s was changed to %s", before, brief(x))
	}
}

func wantAccess(t *testing.T, x api.Matrix, text []byte) {
	t.Helper()
	n := len(text)
	for _, i := range asked(n) {
		if c, e := matrix.Access(x, i); c != text[i] || e != api.OK {
			t.Fatalf("Access(%s, %d) = %d, %d, want %d", brief(x), i, c, e, text[i])
		}
	}
	for _, i := range append(far(), n, n+1) {
		if c, e := matrix.Access(x, i); c != 0 || e != api.ErrRange {
			t.Errorf("Access(%s, %d) = %d, %d, want ErrRange", brief(x), i, c, e)
		}
	}
}

func wantRank(t *testing.T, x api.Matrix, c byte, text []byte) {
	t.Helper()
	n := len(text)
	for _, i := range asked(n + 1) {
		want := bytes.Count(text[:i], []byte{c})
		if got, e := matrix.Rank(x, c, i); got != want || e != api.OK {
			t.Fatalf("Rank(%s, %d, %d) = %d, %d, want %d", brief(x), c, i, got, e, want)
		}
	}
	for _, i := range []int{math.MinInt, -1, n + 1, math.MaxInt} {
		if got, e := matrix.Rank(x, c, i); got != 0 || e != api.ErrRange {
			t.Errorf("Rank(%s, %d, %d) = %d, %d, want ErrRange", brief(x), c, i, got, e)
		}
	}
}

// wantSelect checks Select against all places where c stands.
func wantSelect(t *testing.T, x api.Matrix, c byte, want []int) {
	t.Helper()
	for _, k := range asked(len(want)) {
		if at, e := matrix.Select(x, c, k); at != want[k] || e != api.OK {
			t.Fatalf("Select(%s, %d, %d) = %d, %d, want %d", brief(x), c, k, at, e, want[k])
		}
	}
	for _, k := range []int{math.MinInt, -1, len(want), len(want) + 1, math.MaxInt} {
		if at, e := matrix.Select(x, c, k); at != 0 || e != api.ErrRange {
			t.Errorf("Select(%s, %d, %d) = %d, %d, want ErrRange", brief(x), c, k, at, e)
		}
	}
}

// wantRefused checks that x is taken for a value that may not be: ErrArg, whatever else is wrong, and zeros.
func wantRefused(t *testing.T, x api.Matrix) {
	t.Helper()
	before := told(x)
	if matrix.Check(x) {
		t.Errorf("Check(%s) = true", brief(x))
	}
	if text := matrix.Text(x); len(text) != 0 {
		t.Errorf("Text(%s) = %s", brief(x), short(text))
	}
	if n := matrix.Size(x); n != 0 {
		t.Errorf("Size(%s) = %d", brief(x), n)
	}
	for _, i := range []int{math.MinInt, -1, 0, x.N, math.MaxInt} {
		if c, e := matrix.Access(x, i); c != 0 || e != api.ErrArg {
			t.Errorf("Access(%s, %d) = %d, %d", brief(x), i, c, e)
		}
		for _, c := range []byte{0, 'a', 255} {
			if n, e := matrix.Rank(x, c, i); n != 0 || e != api.ErrArg {
				t.Errorf("Rank(%s, %d, %d) = %d, %d", brief(x), c, i, n, e)
			}
			if at, e := matrix.Select(x, c, i); at != 0 || e != api.ErrArg {
				t.Errorf("Select(%s, %d, %d) = %d, %d", brief(x), c, i, at, e)
			}
		}
	}
	if told(x) != before {
		t.Errorf("%s was changed to %s", before, brief(x))
	}
}

// What the document says in numbers is what api has.
func TestNumbers(t *testing.T) {
	if api.MaxText != longest || api.KindPlain != 1 || api.KindRrr != 2 || api.KindFano != 3 || api.ErrArg != 2 || api.ErrRange != 3 || api.ErrLong != 4 || api.ErrConfig != 5 {
		t.Error("a limit, a kind or an error has another number")
	}
}

// P14.1 Build: eight rows and their noughts, each of them as the chapter's words have it.
func TestBuild(t *testing.T) {
	for _, text := range slices.Concat(texts(), longTexts()) {
		for _, kind := range kinds() {
			given := slices.Clone(text)
			x, e := matrix.Build(kind, given)
			if want := made(t, kind, text); e != api.OK || told(x) != told(want) {
				t.Errorf("Build(%d) of %s = %s, %d, want %s", kind, short(text), brief(x), e, brief(want))
			}
			if len(x.Levels) != 8 || len(x.Zeros) != 8 || x.Kind != kind || x.N != len(text) {
				t.Errorf("Build(%d) of %s has %d rows, %d of Zeros, kind %d, N %d", kind, short(text), len(x.Levels), len(x.Zeros), x.Kind, x.N)
			}
			if !bytes.Equal(given, text) {
				t.Errorf("Build(%d) changed %s", kind, short(text))
			}
		}
	}
}

// P14.1 Build: the rows of a text, written out, and their noughts.
func TestRowsWrittenOut(t *testing.T) {
	for _, c := range []struct {
		text  string
		rows  []string
		zeros []int
	}{
		{"abracadabra", []string{
			"00000000000", "11111111111", "11111111111",
			"00100000010", // abracadabra: r, r
			"00000000000", // abacadaba rr
			"00000100000", // abacadaba rr: d
			"01010010110", // abacaabarr d: b, c, b, r, r
			"11111001000", // aaaaad bcbrr: a, c
		}, []int{11, 0, 0, 9, 11, 10, 6, 5}},
		// 01100000, 10000000, 00110000, 11100001.
		{"\x60\x80\x30\xe1", []string{
			"0101",
			"1001",                 // 60 30, 80 e1
			"1011",                 // 30 80, 60 e1: noughts come first of all, not of those alone that are alike ahead
			"0100",                 // 80, 30 60 e1
			"0000", "0000", "0000", // 80 60 e1, 30
			"0010",
		}, []int{2, 2, 1, 3, 4, 4, 4, 3}},
	} {
		for _, kind := range kinds() {
			x := built(t, kind, []byte(c.text))
			if !slices.Equal(x.Zeros, c.zeros) {
				t.Errorf("Zeros of %q of kind %d are %v, want %v", c.text, kind, x.Zeros, c.zeros)
			}
			for l, want := range c.rows {
				got := ""
				for _, bit := range bitsOf(x.Levels[l]) {
					got += map[bool]string{false: "0", true: "1"}[bit]
				}
				if got != want || x.Levels[l].Kind != kind {
					t.Errorf("row %d of %q of kind %d is %s of kind %d, want %s", l, c.text, kind, got, x.Levels[l].Kind, want)
				}
			}
		}
	}
}

// P14.1 Build: ErrLong, named first: whichever the kind, also where there is none such.
func TestBuildOfTooLong(t *testing.T) {
	for _, text := range tooLong() {
		for _, kind := range slices.Concat(kinds(), noKinds()) {
			given := slices.Clone(text)
			if x, e := matrix.Build(kind, given); e != api.ErrLong || told(x) != told(api.Matrix{}) {
				t.Errorf("Build(%d) of %s = %s, %d, want ErrLong", kind, short(text), brief(x), e)
			}
			if !bytes.Equal(given, text) {
				t.Errorf("Build(%d) changed %s", kind, short(text))
			}
		}
	}
}

// P14.1 Build: layer 10's error, with nothing beside it, whatever the text.
func TestBuildOfNoKind(t *testing.T) {
	for _, text := range slices.Concat(texts(), longTexts()) {
		for _, kind := range noKinds() {
			if x, e := matrix.Build(kind, text); e != api.ErrConfig || told(x) != told(api.Matrix{}) {
				t.Errorf("Build(%d) of %s = %s, %d, want ErrConfig", kind, short(text), brief(x), e)
			}
		}
	}
}

// P14.1, P14.2 and P14.3: what is built may be, its text is the text, and all that is asked of it is told by that.
func TestAnswers(t *testing.T) {
	for _, text := range slices.Concat(texts(), longTexts()[:3]) {
		for _, kind := range kinds() {
			wantTaken(t, built(t, kind, text), text)
		}
	}
	for _, kind := range kinds() {
		wantTaken(t, made(t, kind, []byte("abracadabra")), []byte("abracadabra"))
		for _, text := range longTexts()[3:] {
			if x := built(t, kind, text); !matrix.Check(x) || !bytes.Equal(matrix.Text(x), text) {
				t.Errorf("of kind %d, %s is not taken", kind, short(text))
			}
		}
	}
}

// P14.2: all places and counts of all symbols, and those past the ends.
func TestAllAsked(t *testing.T) {
	for _, text := range [][]byte{[]byte("abracadabra"), scattered(70), few(130), falling(256), scattered(300)} {
		stands := places(text)
		for _, kind := range kinds() {
			x := built(t, kind, text)
			for c := range 256 {
				for k, want := range stands[c] {
					if at, e := matrix.Select(x, byte(c), k); at != want || e != api.OK {
						t.Fatalf("Select(%s, %d, %d) = %d, %d, want %d", brief(x), c, k, at, e, want)
					}
				}
				wantSelect(t, x, byte(c), stands[c])
				wantRank(t, x, byte(c), text)
			}
			for i := range len(text) + 1 {
				for c := i % 11; c < 256; c += 11 { // other symbols at each place
					want := bytes.Count(text[:i], []byte{byte(c)})
					if got, e := matrix.Rank(x, byte(c), i); got != want || e != api.OK {
						t.Fatalf("Rank(%s, %d, %d) = %d, %d, want %d", brief(x), c, i, got, e, want)
					}
				}
			}
			for i, want := range text {
				if c, e := matrix.Access(x, i); c != want || e != api.OK {
					t.Fatalf("Access(%s, %d) = %d, %d, want %d", brief(x), i, c, e, want)
				}
			}
		}
	}
}

// P14.3: all texts of one symbol, and all of two and three of some symbols.
func TestShortestTexts(t *testing.T) {
	some := []byte{0, 1, 85, 127, 128, 170, 254, 255}
	for _, kind := range kinds() {
		for c := range 256 {
			text := []byte{byte(c)}
			wantBuilt(t, made(t, kind, text), text)
			wantAccess(t, built(t, kind, text), text)
		}
		for _, a := range some {
			for _, b := range some {
				text := []byte{a, b}
				wantTaken(t, built(t, kind, text), text)
				for _, c := range some {
					text := []byte{a, b, c}
					wantBuilt(t, made(t, kind, text), text)
				}
			}
		}
	}
}

// P14.1 Size: some sums written out.
func TestSizes(t *testing.T) {
	for _, c := range []struct {
		text []byte
		want [4]int
	}{
		// Each of the eight of Zeros is counted for 32 bits.
		{nil, [4]int{1: 8 * (32 + 32), 2: 8 * (64 + 32), 3: 8 * (65 + 32)}},
		// One bit, a number of Super, one of Sub; one block of class 0; High 2, as w is 0.
		{[]byte{0}, [4]int{1: 8 * (1 + 32 + 16 + 32), 2: 8 * (4 + 64 + 32), 3: 8 * (2 + 64 + 32)}},
		// A block of one bit 1 is one of 15: four bits of offset. High 3.
		{[]byte{255}, [4]int{1: 8 * (1 + 32 + 16 + 32), 2: 8 * (4 + 4 + 64 + 32), 3: 8 * (3 + 64 + 32)}},
		// One row of 64 bits 1, of which the last block has 4 (1365 of them: 11 bits), and seven of bits 0.
		{alone(16, 64), [4]int{1: 8 * (64 + 32 + 16 + 32), 2: 8*(5*4+64+32) + 11, 3: 7*(65+64) + 129 + 64 + 8*32}},
	} {
		for _, kind := range kinds() {
			if got := matrix.Size(built(t, kind, c.text)); got != c.want[kind] {
				t.Errorf("Size of %s of kind %d = %d, want %d", short(c.text), kind, got, c.want[kind])
			}
		}
	}
}

// P14.1 Check: a value that no call made.
func TestZeroValues(t *testing.T) {
	wantRefused(t, api.Matrix{})
	for _, kind := range slices.Concat(kinds(), noKinds()) {
		for _, count := range []int{0, 1, 7, 8, 9} {
			wantRefused(t, api.Matrix{Kind: kind, Zeros: make([]int, count)})
			x := api.Matrix{Kind: kind, Levels: make([]api.Vector, count), Zeros: make([]int, count)}
			wantRefused(t, x)
			for l := range x.Levels {
				x.Levels[l].Kind = kind
			}
			wantRefused(t, x)
		}
	}
}

// P14.1 Check: rows that are too few, or too many, are those of no text, whether Zeros go with them or not.
func TestRowsMissing(t *testing.T) {
	for _, text := range texts() {
		for _, kind := range kinds() {
			x := built(t, kind, text)
			for count := range 8 {
				wantRefused(t, changed(x, func(y *api.Matrix) { y.Levels = y.Levels[:count] })) // the room behind holds the others
				wantRefused(t, changed(x, func(y *api.Matrix) { y.Levels = y.Levels[8-count:] }))
				wantRefused(t, changed(x, func(y *api.Matrix) { y.Levels, y.Zeros = y.Levels[:count], y.Zeros[:count] }))
			}
			wantRefused(t, changed(x, func(y *api.Matrix) { y.Levels = nil }))
			wantRefused(t, changed(x, func(y *api.Matrix) { y.Levels, y.Zeros = nil, nil }))
			wantRefused(t, changed(x, func(y *api.Matrix) { y.Levels = append(y.Levels, y.Levels[7]) }))
			wantRefused(t, changed(x, func(y *api.Matrix) { y.Levels = append(y.Levels, api.Vector{}) }))
			wantRefused(t, changed(x, func(y *api.Matrix) { y.Levels = append(y.Levels, y.Levels...) }))
			wantRefused(t, changed(x, func(y *api.Matrix) {
				y.Levels, y.Zeros = append(y.Levels, y.Levels[7]), append(y.Zeros, y.Zeros[7])
			}))
		}
	}
	empty := built(t, 1, nil).Levels[:1]
	wantRefused(t, api.Matrix{Kind: 1, Levels: slices.Repeat(empty, 1<<12), Zeros: make([]int, 8)})
	wantRefused(t, api.Matrix{Kind: 1, Levels: slices.Repeat(empty, 1<<12), Zeros: make([]int, 1<<12)})
}

// P14.1 Check: of Zeros too few, or too many.
func TestZerosMissing(t *testing.T) {
	for _, text := range texts() {
		for _, kind := range kinds() {
			x := built(t, kind, text)
			for count := range 8 {
				wantRefused(t, changed(x, func(y *api.Matrix) { y.Zeros = y.Zeros[:count] })) // the room behind holds the others
				wantRefused(t, changed(x, func(y *api.Matrix) { y.Zeros = y.Zeros[8-count:] }))
			}
			wantRefused(t, changed(x, func(y *api.Matrix) { y.Zeros = nil }))
			for _, more := range []int{0, 1, len(text), -1, math.MinInt, math.MaxInt, x.Zeros[7]} {
				wantRefused(t, changed(x, func(y *api.Matrix) { y.Zeros = append(y.Zeros, more) }))
			}
			wantRefused(t, changed(x, func(y *api.Matrix) { y.Zeros = append(y.Zeros, y.Zeros...) }))
		}
	}
}

// P14.1 Check: one of Zeros that is not how many bits of its row are 0.
func TestZerosAnother(t *testing.T) {
	for _, text := range texts() {
		n := len(text)
		for _, kind := range kinds() {
			x := built(t, kind, text)
			for l, zeros := range x.Zeros {
				for _, other := range []int{math.MinInt, -1, 0, zeros - 1, zeros + 1, n - zeros, n, n + 1, -zeros, math.MaxInt} {
					if other != zeros {
						wantRefused(t, changed(x, func(y *api.Matrix) { y.Zeros[l] = other }))
					}
				}
				if before := x.Zeros[(l+7)%8]; before != zeros {
					wantRefused(t, changed(x, func(y *api.Matrix) { y.Zeros[l], y.Zeros[(l+7)%8] = before, zeros }))
				}
			}
		}
	}
}

// P14.1 Check: a value of another kind, or of another length, than its rows.
func TestKindOrLengthAnother(t *testing.T) {
	for _, text := range slices.Concat(texts(), longTexts()[:1]) {
		n := len(text)
		for _, kind := range kinds() {
			x := built(t, kind, text)
			for _, other := range slices.Concat(kinds(), noKinds()) {
				if other != kind {
					wantRefused(t, changed(x, func(y *api.Matrix) { y.Kind = other }))
				}
			}
			for _, other := range append(far(), n-1, n+1, n+64, 2*n+1) {
				if other != n {
					wantRefused(t, changed(x, func(y *api.Matrix) { y.N = other }))
				}
			}
		}
	}
}

// P14.1 Check: a value one of whose rows is not of its kind, or not of its length, or is none.
func TestRowAnother(t *testing.T) {
	for _, text := range [][]byte{nil, {97}, []byte("abracadabra"), scattered(64), few(300)} {
		for _, kind := range kinds() {
			x := built(t, kind, text)
			for l := range 8 {
				bits := walked(text, l)
				others := []api.Vector{{}, {Kind: kind}, rowMade(t, kind, append(slices.Clone(bits), false)), rowMade(t, kind, append(slices.Clone(bits), true))}
				if len(bits) > 0 {
					others = append(others, rowMade(t, kind, bits[1:]), rowMade(t, kind, nil))
				}
				for _, other := range kinds() {
					if other != kind {
						others = append(others, rowMade(t, other, bits))
					}
				}
				for _, other := range others {
					y := changed(x, func(y *api.Matrix) { y.Levels[l] = other })
					wantRefused(t, y)
					wantRefused(t, counted(y))
				}
			}
		}
	}
}

// P14.1 Check: rows that are all longer, or all shorter, than N says; and all longer than a text is.
func TestAllRowsAnother(t *testing.T) {
	for _, kind := range kinds() {
		for _, n := range []int{0, 1, 64, 300, longest - 1, longest, longest + 1, longest + 64} {
			rows := slices.Repeat([][]bool{make([]bool, n)}, 8)
			for _, other := range []int{n - 1, n + 1} {
				wantRefused(t, madeOf(t, kind, other, rows))
			}
			x := madeOf(t, kind, n, rows)
			if n > longest {
				wantRefused(t, x)
			} else if !matrix.Check(x) || !bytes.Equal(matrix.Text(x), alone(0, n)) {
				t.Errorf("%d symbols 0 of kind %d are not taken", n, kind)
			}
		}
	}
}

// wantBuilt checks that x is taken, and just what Build answers of the text: then it answers as that does.
func wantBuilt(t *testing.T, x api.Matrix, text []byte) {
	t.Helper()
	if got := matrix.Text(x); !matrix.Check(x) || !bytes.Equal(got, text) {
		t.Fatalf("%s is not taken for %s, but for %s", brief(x), short(text), short(got))
	}
	if y := built(t, x.Kind, text); told(y) != told(x) {
		t.Errorf("%s is taken, but not Build of its text: %s", brief(x), brief(y))
	}
}

// wantAsRows checks that x, some of whose rows are changed, is refused, if one of them is none that layer 10 takes, or not of its kind and of N bits, or has not as many noughts as Zeros tell; else it is Build of another text. It answers whether it is.
func wantAsRows(t *testing.T, x api.Matrix) bool {
	t.Helper()
	var rows [][]bool
	for l, row := range x.Levels {
		bits := bitsOf(row)
		if !vector.Check(row) || row.Kind != x.Kind || len(bits) != x.N || noughts(bits) != x.Zeros[l] {
			wantRefused(t, x)
			return false
		}
		rows = append(rows, bits)
	}
	wantBuilt(t, x, unwalked(rows, x.N))
	return true
}

// P14.1 Check: values of which one bit of a row is changed, whether within it, behind its end, or in what stands beside it; also where Zeros are counted anew.
func TestOneBitAnother(t *testing.T) {
	asItIs, anew, refused := 0, 0, 0
	for _, text := range [][]byte{{97}, []byte("abracadabra"), scattered(65), few(130)} {
		for _, kind := range kinds() {
			x := built(t, kind, text)
			for l := range 8 {
				for i, words := range wordsOf(&x.Levels[l]) {
					for at := l % 5; at < 64*len(*words); at += 5 {
						y := changed(x, func(y *api.Matrix) { (*wordsOf(&y.Levels[l])[i])[at/64] ^= 1 << (at % 64) })
						if wantAsRows(t, y) {
							asItIs++
						} else if wantAsRows(t, counted(y)) {
							anew++
						} else {
							refused++
						}
					}
				}
			}
		}
	}
	if asItIs < 100 || anew < 20 || refused < 500 {
		t.Errorf("%d values are taken, %d with Zeros counted anew, %d are refused: all should be many", asItIs, anew, refused)
	}
}

// P14.1 Check: one bit of a row is another: as Zeros tell of the bit that was, it is no text's; with Zeros counted anew it is Build of another text.
func TestOneBitWithin(t *testing.T) {
	for _, text := range [][]byte{{0}, {255}, []byte("abracadabra"), few(65)} {
		for _, kind := range kinds() {
			x := built(t, kind, text)
			for l := range 8 {
				for at := range text {
					bits := walked(text, l)
					bits[at] = !bits[at]
					y := changed(x, func(y *api.Matrix) { y.Levels[l] = rowMade(t, kind, bits) })
					wantRefused(t, y)
					if !wantAsRows(t, counted(y)) {
						t.Errorf("row %d of %s of kind %d with bit %d another is refused", l, short(text), kind, at)
					}
				}
			}
		}
	}
}

// P14.1 Check: values of which one number, or one list, of a row is changed.
func TestOneNumberAnother(t *testing.T) {
	refused := 0
	count := func(y api.Matrix) {
		if !wantAsRows(t, y) {
			refused++
		}
	}
	for _, text := range [][]byte{nil, {255}, []byte("abracadabra"), scattered(130)} {
		for _, kind := range kinds() {
			x := built(t, kind, text)
			for l := range 8 {
				for i, number := range countsOf(&x.Levels[l]) {
					for _, n := range []int{math.MinInt, -1, *number - 1, *number + 1, math.MaxInt} {
						count(changed(x, func(y *api.Matrix) { *countsOf(&y.Levels[l])[i] = n }))
					}
				}
				for i, numbers := range numbersOf(&x.Levels[l]) {
					count(changed(x, func(y *api.Matrix) { n := numbersOf(&y.Levels[l])[i]; *n = append(*n, 0) }))
					for j := range *numbers {
						count(changed(x, func(y *api.Matrix) { (*numbersOf(&y.Levels[l])[i])[j]++ }))
					}
				}
				for i := range wordsOf(&x.Levels[l]) {
					count(changed(x, func(y *api.Matrix) { w := wordsOf(&y.Levels[l])[i]; *w = append(*w, 0) }))
				}
			}
		}
	}
	if refused < 5000 {
		t.Errorf("%d values are refused: they should be many", refused)
	}
}

// P14.1 Check: two rows exchanged, or one in place of another, are those of no text, unless they have as many noughts; where Zeros go with them, it is Build of another text, and taken for that.
func TestRowsExchanged(t *testing.T) {
	taken, refused := 0, 0
	for _, text := range [][]byte{nil, {97}, []byte("abracadabra"), scattered(64), rising(256)} {
		for _, kind := range kinds() {
			x := built(t, kind, text)
			for a := range 8 {
				for b := range a {
					for _, y := range []api.Matrix{
						changed(x, func(y *api.Matrix) { y.Levels[a], y.Levels[b] = y.Levels[b], y.Levels[a] }),
						changed(x, func(y *api.Matrix) { y.Levels[a] = y.Levels[b] }),
					} {
						if wantAsRows(t, y) {
							taken++
						} else {
							refused++
						}
						if !wantAsRows(t, counted(y)) {
							t.Errorf("of %s rows %d and %d exchanged with their Zeros are refused", short(text), a, b)
						}
					}
				}
			}
		}
	}
	if taken < 200 || refused < 200 {
		t.Errorf("%d values are taken, %d are refused: both should be many", taken, refused)
	}
}

// R3: nil and empty lists are the same.
func TestEmptyLists(t *testing.T) {
	for _, kind := range kinds() {
		for _, text := range [][]byte{nil, []byte("abracadabra")} {
			wantTaken(t, changed(built(t, kind, text), func(x *api.Matrix) {
				x.Levels, x.Zeros = append(x.Levels, api.Vector{Kind: 3})[:8], append(x.Zeros, -1)[:8]
				for l := range x.Levels {
					for _, w := range wordsOf(&x.Levels[l]) {
						*w = append(make([]uint64, 0, 2), *w...)
					}
					for _, n := range numbersOf(&x.Levels[l]) {
						*n = append(make([]int, 0, 2), *n...)
					}
				}
			}), text)
		}
		if a, b := built(t, kind, nil), built(t, kind, []byte{}); told(a) != told(b) {
			t.Errorf("Build(%d) of nil is %s, of an empty text %s", kind, told(a), told(b))
		}
	}
}

// R3: what is built shares nothing with the text, nor with what stands behind its end.
func TestTextGiven(t *testing.T) {
	for _, kind := range kinds() {
		for _, n := range []int{0, 1, 64, 299} {
			room := scattered(300)
			x := built(t, kind, room[:n])
			if !bytes.Equal(room, scattered(300)) {
				t.Errorf("Build(%d) changed its text of %d bytes, or what is behind", kind, n)
			}
			want := told(x)
			clear(room)
			if told(x) != want {
				t.Errorf("Build(%d) of %d bytes shares memory with its text", kind, n)
			}
		}
	}
}

// R3: the lists of what is built share nothing with one another.
func TestListsApart(t *testing.T) {
	for _, kind := range kinds() {
		for _, text := range [][]byte{nil, []byte("abracadabra"), alone(97, 300), scattered(300)} {
			x, other := built(t, kind, text), built(t, kind, text)
			want := told(other)
			for l := range x.Zeros {
				x.Zeros[l] = -1 - l
			}
			for l := range x.Levels {
				for i, w := range wordsOf(&x.Levels[l]) {
					for j := range *w {
						(*w)[j] = uint64(100*l + i)
					}
				}
				for i, n := range numbersOf(&x.Levels[l]) {
					for j := range *n {
						(*n)[j] = 100*l + i
					}
				}
			}
			for l := range x.Levels {
				for i, w := range wordsOf(&x.Levels[l]) {
					if slices.ContainsFunc(*w, func(v uint64) bool { return v != uint64(100*l+i) }) {
						t.Errorf("words %d of row %d of kind %d are those of another", i, l, kind)
					}
				}
				for i, n := range numbersOf(&x.Levels[l]) {
					if slices.ContainsFunc(*n, func(v int) bool { return v != 100*l+i }) {
						t.Errorf("numbers %d of row %d of kind %d are those of another", i, l, kind)
					}
				}
			}
			if !slices.Equal(x.Zeros, []int{-1, -2, -3, -4, -5, -6, -7, -8}) {
				t.Errorf("Zeros of kind %d are numbers of another list", kind)
			}
			if told(other) != want {
				t.Errorf("two values of kind %d of one text share memory", kind)
			}
		}
	}
}

// R3: the text that is answered is the caller's own.
func TestTextAnswered(t *testing.T) {
	for _, kind := range kinds() {
		for _, text := range [][]byte{[]byte("abracadabra"), scattered(300)} {
			x := built(t, kind, text)
			want := told(x)
			first, second := matrix.Text(x), matrix.Text(x)
			for i := range first {
				first[i] ^= 255
			}
			if !bytes.Equal(second, text) || !bytes.Equal(matrix.Text(x), text) || told(x) != want {
				t.Errorf("Text of kind %d shares memory", kind)
			}
		}
	}
}

// R8: the same call answers the same.
func TestAgain(t *testing.T) {
	text := scattered(300)
	for _, kind := range kinds() {
		want := told(built(t, kind, text))
		for range 20 {
			if x := built(t, kind, text); told(x) != want || !bytes.Equal(matrix.Text(x), text) {
				t.Fatalf("Build(%d) is another one", kind)
			}
		}
	}
}

// The chapter's example.
func TestExample(t *testing.T) {
	for _, kind := range kinds() {
		if at, e := matrix.Select(built(t, kind, []byte("abracadabra")), 'r', 1); at != 9 || e != api.OK {
			t.Errorf("of kind %d: Select of r, 1 = %d, %d", kind, at, e)
		}
	}
}
