package shaped_test

import (
	"bytes"
	"cmp"
	"fmt"
	"math"
	"slices"
	"strings"
	"testing"

	"haystack/api"
	"haystack/shaped"
	"haystack/vector"
)

const longest = 1 << 13 // MaxText, written out as the document does

// kinds are the kinds that there are, by the numbers that the document gives them.
func kinds() []int {
	return []int{1, 2, 3}
}

// noKinds are numbers that are no kind.
func noKinds() []int {
	return []int{math.MinInt, math.MinInt + 1, -1 << 32, -3, -2, -1, 0, 4, 5, 255, 256, 257, 1<<32 + 1, 1<<32 + 2, math.MaxInt - 1, math.MaxInt}
}

// scattered answers n symbols of a fixed row that has all of them.
func scattered(n int) []byte {
	text := make([]byte, n)
	x := uint64(88172645463325252)
	for i := range text {
		x ^= x << 13
		x ^= x >> 7
		x ^= x << 17
		text[i] = byte(x >> 40)
	}
	return text
}

// few answers n symbols of a fixed row that has few of them, some far more often than others.
func few(n int) []byte {
	text := scattered(n)
	for i, c := range text {
		text[i] = "aaaaaaaabbbbccd\x00"[c%16]
	}
	return text
}

// rising answers n symbols, each of them the one that comes behind the one ahead; 0 comes behind 255.
func rising(n int) []byte {
	text := make([]byte, n)
	for i := range text {
		text[i] = byte(i)
	}
	return text
}

// falling answers those of rising from behind.
func falling(n int) []byte {
	text := rising(n)
	slices.Reverse(text)
	return text
}

// alone answers n times one symbol.
func alone(c byte, n int) []byte {
	return bytes.Repeat([]byte{c}, n)
}

// but answers n times one symbol, but for another one at a place.
func but(c byte, n int, other byte, place int) []byte {
	text := alone(c, n)
	text[place] = other
	return text
}

// grown answers symbols whose counts grow as 1, 1, 2, 3, 5, 8: each of the given ones, in that order.
func grown(symbols ...byte) []byte {
	var text []byte
	last, count := 0, 1
	for _, c := range symbols {
		text = append(text, alone(c, count)...)
		last, count = count, last+count
	}
	return text
}

// mixed answers the symbols of a text in another order.
func mixed(text []byte) []byte {
	out := slices.Clone(text)
	for i, c := range scattered(len(out)) {
		j := (i*251 + int(c)) % len(out)
		out[i], out[j] = out[j], out[i]
	}
	return out
}

// texts are the short texts.
func texts() [][]byte {
	l := [][]byte{nil, {}, {0}, {255}, {97}, {0, 0}, {0, 255}, {255, 0}, {128, 127}, {1, 2, 3}, {7, 7, 7}, []byte("aaab"), []byte("baaa"), []byte("abracadabra")}
	for _, n := range []int{63, 64, 65} {
		l = append(l, alone(0, n), alone(255, n), alone(113, n), scattered(n), few(n), rising(n), falling(n), but(0, n, 255, n-1), but(255, n, 0, 0))
	}
	for _, n := range []int{255, 256, 257, 300} {
		l = append(l, alone(113, n), scattered(n), few(n), rising(n), falling(n))
	}
	l = append(l, grown(9, 8, 7, 6, 5, 4, 3, 2, 1), grown(0, 255, 1, 254, 2, 253, 3, 252), mixed(grown([]byte("hgfedcba")...)))
	return append(l, alone(0, 300), alone(255, 300), but(64, 300, 65, 150))
}

// longCodes is a text of 18 symbols with codes of up to 17 bits.
func longCodes() []byte {
	return mixed(grown([]byte("ABCDEFGHIJKLMNOPQR")...))
}

// longTexts are texts of as many bytes as a text has at most, and one that has the longest codes.
func longTexts() [][]byte {
	return [][]byte{scattered(longest), few(longest), alone(255, longest), longCodes(), alone(0, longest), falling(longest), but(7, longest, 200, longest-1)}
}

// tooLong are texts that are longer than a text is.
func tooLong() [][]byte {
	return [][]byte{scattered(longest + 1), alone(0, longest+1), alone(255, longest+64), rising(2 * longest), rising(1 << 16)}
}

// far are places and counts far from every text.
func far() []int {
	return []int{math.MinInt, math.MinInt + 1, math.MinInt32, -longest, -2, -1, longest + 1, 1 << 20, math.MaxInt32, 1 << 32, math.MaxInt - longest, math.MaxInt - 1, math.MaxInt}
}

// group is a symbol, or what became of two: all symbols in it, how often they stand together, and its number.
type group struct {
	symbols []int
	count   int
	number  int
}

// walkedLens answers the lengths of the codes of a text by the words of layer 11: the two least become one more, likes by their numbers, and each symbol in them is one longer.
func walkedLens(text []byte) []int {
	lens := make([]int, 256)
	var groups []group
	for c := range 256 {
		if n := bytes.Count(text, []byte{byte(c)}); n > 0 {
			groups = append(groups, group{[]int{c}, n, c})
		}
	}
	if len(groups) == 1 {
		lens[groups[0].number] = 1
	}
	for number := 256; len(groups) > 1; number++ {
		slices.SortFunc(groups, func(a, b group) int { return cmp.Or(a.count-b.count, a.number-b.number) })
		both := group{slices.Concat(groups[0].symbols, groups[1].symbols), groups[0].count + groups[1].count, number}
		for _, c := range both.symbols {
			lens[c]++
		}
		groups = append(groups[2:], both)
	}
	return lens
}

// walkedCodes answers the codes of these lengths as texts of 0 and 1 by the words of layer 11; false, if they do not fit.
func walkedCodes(lens []int) ([]string, bool) {
	codes := make([]string, 256)
	if len(lens) != 256 || slices.Min(lens) < 0 || slices.Max(lens) > 40 {
		return nil, false
	}
	coded, last, sum := 0, "", uint64(0)
	for length := 1; length <= 40; length++ {
		for c := range lens {
			if lens[c] == length {
				if coded > 0 {
					last = oneMore(last)
				}
				last += strings.Repeat("0", max(0, length-len(last)))
				codes[c] = last
				coded++
				sum += 1 << (40 - length)
			}
		}
	}
	return codes, sum == 1<<40 || coded == 0 || coded == 1 && slices.Max(lens) == 1
}

// oneMore answers bits as a number that is one greater, of as many bits; where there is none such, noughts.
func oneMore(s string) string {
	at := strings.LastIndex(s, "0")
	if at < 0 {
		return strings.Repeat("0", len(s))
	}
	return s[:at] + "1" + strings.Repeat("0", len(s)-at-1)
}

// walkedNodes answers the nodes of these codes by the chapter's words: each beginning of one that is shorter than it, by rising lengths, likes by their bits as a number.
func walkedNodes(codes []string) []string {
	var nodes []string
	for _, code := range codes {
		for l := range len(code) {
			nodes = append(nodes, code[:l])
		}
	}
	slices.SortFunc(nodes, func(a, b string) int { return cmp.Or(len(a)-len(b), strings.Compare(a, b)) })
	return slices.Compact(nodes)
}

// walked answers the bits of a node by the chapter's words: of each symbol whose code begins so, as they stand in the text, the next bit.
func walked(text []byte, codes []string, node string) []bool {
	var bits []bool
	for _, c := range text {
		if code := codes[c]; len(code) > len(node) && strings.HasPrefix(code, node) {
			bits = append(bits, code[len(node)] == '1')
		}
	}
	return bits
}

// unwalked answers the text of n symbols that x tells: each symbol's bits are the next ones of the nodes that they lead to. False, if there are too few or too many of them, or if they lead to no symbol.
func unwalked(x api.Shaped) ([]byte, bool) {
	codes, fit := walkedCodes(x.Lens)
	if !fit || x.N < 0 || x.N > longest || len(walkedNodes(codes)) != len(x.Nodes) {
		return nil, false
	}
	left := map[string][]bool{}
	for i, node := range walkedNodes(codes) {
		left[node] = bitsOf(x.Nodes[i])
	}
	text := make([]byte, x.N)
	for i := range text {
		read := ""
		for read == "" || !slices.Contains(codes, read) {
			if len(left[read]) == 0 {
				return nil, false
			}
			bit := left[read][0]
			left[read] = left[read][1:]
			read += map[bool]string{false: "0", true: "1"}[bit]
		}
		text[i] = byte(slices.Index(codes, read))
	}
	for _, bits := range left {
		if len(bits) > 0 {
			return nil, false
		}
	}
	return text, true
}

// row answers the row of the bits l.
func row(l []bool) api.Bits {
	b := api.Bits{N: len(l)}
	for i, x := range l {
		if i%64 == 0 {
			b.W = append(b.W, 0)
		}
		if x {
			b.W[i/64] += 1 << (i % 64)
		}
	}
	return b
}

// bitsOf answers the bits of a row that may be.
func bitsOf(x api.Vector) []bool {
	b := vector.Bits(x)
	l := make([]bool, b.N)
	for i := range l {
		l[i] = b.W[i/64]>>(i%64)&1 == 1
	}
	return l
}

// rowMade answers the bits l in a kind, made by layer 10.
func rowMade(t *testing.T, kind int, l []bool) api.Vector {
	t.Helper()
	x, e := vector.Build(kind, row(l))
	if e != api.OK {
		t.Fatalf("layer 10 refuses %d bits of kind %d: %d", len(l), kind, e)
	}
	return x
}

// madeOf answers the value that a text would have along codes of these lengths, without the package that is tested.
func madeOf(t *testing.T, kind int, text []byte, lens []int) api.Shaped {
	t.Helper()
	codes, fit := walkedCodes(lens)
	if !fit {
		t.Fatalf("lengths do not fit: %v", lens)
	}
	x := api.Shaped{Kind: kind, N: len(text), Lens: lens}
	for _, node := range walkedNodes(codes) {
		x.Nodes = append(x.Nodes, rowMade(t, kind, walked(text, codes, node)))
	}
	return x
}

// made answers the value of a text by the chapter's words, without the package that is tested.
func made(t *testing.T, kind int, text []byte) api.Shaped {
	t.Helper()
	return madeOf(t, kind, text, walkedLens(text))
}

// lensOf answers lengths that are 0 but for these.
func lensOf(some map[byte]int) []int {
	lens := make([]int, 256)
	for c, length := range some {
		lens[c] = length
	}
	return lens
}

// built answers Build of a text.
func built(t *testing.T, kind int, text []byte) api.Shaped {
	t.Helper()
	x, e := shaped.Build(kind, text)
	if e != api.OK {
		t.Fatalf("Build(%d) of %s: %d", kind, short(text), e)
	}
	return x
}

// told tells all of x: two values that are told alike are alike; nil and empty lists are.
func told(x api.Shaped) string {
	return fmt.Sprintf("%v", x)
}

// short tells a text in few words.
func short(text []byte) string {
	return fmt.Sprintf("%d bytes %q..", len(text), text[:min(12, len(text))])
}

// brief tells a value in few words.
func brief(x api.Shaped) string {
	all := fmt.Sprintf("%v", x.Nodes)
	return fmt.Sprintf("{kind %d, N %d, %d lengths up to %d, %d nodes %s..}", x.Kind, x.N, len(x.Lens), slices.Max(append([]int{0}, x.Lens...)), len(x.Nodes), all[:min(200, len(all))])
}

// wordsOf answers the lists of words that a row has.
func wordsOf(x *api.Vector) []*[]uint64 {
	return []*[]uint64{&x.Plain.Bits.W, &x.Rrr.Class.Bits.W, &x.Rrr.Off.W, &x.Fano.Low.Bits.W, &x.Fano.High.W}
}

// numbersOf answers the lists of numbers that a row has.
func numbersOf(x *api.Vector) []*[]int {
	return []*[]int{&x.Plain.Super, &x.Plain.Sub, &x.Rrr.Ones, &x.Rrr.Points}
}

// countsOf answers the numbers of a row that tell how long something is.
func countsOf(x *api.Vector) []*int {
	return []*int{&x.Kind, &x.Plain.Bits.N, &x.Rrr.N, &x.Rrr.Class.N, &x.Rrr.Class.Width, &x.Rrr.Class.Bits.N, &x.Rrr.Off.N, &x.Fano.N, &x.Fano.M, &x.Fano.Low.N, &x.Fano.Low.Width, &x.Fano.Low.Bits.N, &x.Fano.High.N}
}

func clone(x api.Shaped) api.Shaped {
	x.Lens = slices.Clone(x.Lens)
	x.Nodes = slices.Clone(x.Nodes)
	for l := range x.Nodes {
		for _, w := range wordsOf(&x.Nodes[l]) {
			*w = slices.Clone(*w)
		}
		for _, n := range numbersOf(&x.Nodes[l]) {
			*n = slices.Clone(*n)
		}
	}
	return x
}

// changed answers x with something changed by f, in lists of their own.
func changed(x api.Shaped, f func(x *api.Shaped)) api.Shaped {
	y := clone(x)
	f(&y)
	return y
}

// places answers where each symbol stands in a text.
func places(text []byte) [256][]int {
	var l [256][]int
	for i, c := range text {
		l[c] = append(l[c], i)
	}
	return l
}

// asked are the places, or counts, at which n of them are asked: all of few; of many those at the ends and some others.
func asked(n int) []int {
	var l []int
	if n <= 12 {
		for i := range n {
			l = append(l, i)
		}
		return l
	}
	return []int{0, 1, n / 3, n / 2, n - 2, n - 1}
}

// symbols answers those that stand in a text, each that comes ahead of or behind one of them, and the least and the greatest; the longer the text, the fewer of these.
func symbols(text []byte) []byte {
	var stands [256]int
	for _, c := range text {
		for _, near := range []byte{c - 1, c, c + 1} {
			stands[near]++
		}
	}
	stands[0]++
	stands[255]++
	step := 1 + min(len(text)/65*5, 25)
	var l []byte
	for c, n := range stands {
		if n > 0 && (c%step == 0 || c >= 'a' && c <= 'e' || c == 255) {
			l = append(l, byte(c))
		}
	}
	return l
}

// wantTaken checks that x is taken for the text, and that all answers are those of the text.
func wantTaken(t *testing.T, x api.Shaped, text []byte) {
	t.Helper()
	before := told(x)
	if !shaped.Check(x) {
		t.Fatalf("Check(%s) = false", brief(x))
	}
	if got := shaped.Text(x); !bytes.Equal(got, text) {
		t.Fatalf("Text(%s) = %s, want %s", brief(x), short(got), short(text))
	}
	size := 6 * 256
	for _, node := range x.Nodes {
		size += vector.Size(node)
	}
	if got := shaped.Size(x); got != size {
		t.Errorf("Size(%s) = %d, want %d", brief(x), got, size)
	}
	wantAccess(t, x, text)
	stands := places(text)
	for _, c := range symbols(text) {
		wantRank(t, x, c, text)
		wantSelect(t, x, c, stands[c])
	}
	if told(x) != before {
		t.Errorf("%s was changed to %s", before, brief(x))
	}
}

func wantAccess(t *testing.T, x api.Shaped, text []byte) {
	t.Helper()
	n := len(text)
	for _, i := range asked(n) {
		if c, e := shaped.Access(x, i); c != text[i] || e != api.OK {
			t.Fatalf("Access(%s, %d) = %d, %d, want %d", brief(x), i, c, e, text[i])
		}
	}
	for _, i := range append(far(), n, n+1) {
		if c, e := shaped.Access(x, i); c != 0 || e != api.ErrRange {
			t.Errorf("Access(%s, %d) = %d, %d, want ErrRange", brief(x), i, c, e)
		}
	}
}

func wantRank(t *testing.T, x api.Shaped, c byte, text []byte) {
	t.Helper()
	n := len(text)
	for _, i := range asked(n + 1) {
		want := bytes.Count(text[:i], []byte{c})
		if got, e := shaped.Rank(x, c, i); got != want || e != api.OK {
			t.Fatalf("Rank(%s, %d, %d) = %d, %d, want %d", brief(x), c, i, got, e, want)
		}
	}
	for _, i := range []int{math.MinInt, -1, n + 1, math.MaxInt} {
		if got, e := shaped.Rank(x, c, i); got != 0 || e != api.ErrRange {
			t.Errorf("Rank(%s, %d, %d) = %d, %d, want ErrRange", brief(x), c, i, got, e)
		}
	}
}

// wantSelect checks Select against all places where c stands.
func wantSelect(t *testing.T, x api.Shaped, c byte, want []int) {
	t.Helper()
	for _, k := range asked(len(want)) {
		if at, e := shaped.Select(x, c, k); at != want[k] || e != api.OK {
			t.Fatalf("Select(%s, %d, %d) = %d, %d, want %d", brief(x), c, k, at, e, want[k])
		}
	}
	for _, k := range []int{math.MinInt, -1, len(want), len(want) + 1, math.MaxInt} {
		if at, e := shaped.Select(x, c, k); at != 0 || e != api.ErrRange {
			t.Errorf("Select(%s, %d, %d) = %d, %d, want ErrRange", brief(x), c, k, at, e)
		}
	}
}

// wantRefused checks that x is taken for a value that may not be: ErrArg, whatever else is wrong, and zeros.
func wantRefused(t *testing.T, x api.Shaped) {
	t.Helper()
	before := told(x)
	if shaped.Check(x) {
		t.Errorf("Check(%s) = true", brief(x))
	}
	if text := shaped.Text(x); len(text) != 0 {
		t.Errorf("Text(%s) = %s", brief(x), short(text))
	}
	if n := shaped.Size(x); n != 0 {
		t.Errorf("Size(%s) = %d", brief(x), n)
	}
	for _, i := range []int{math.MinInt, -1, 0, x.N, math.MaxInt} {
		if c, e := shaped.Access(x, i); c != 0 || e != api.ErrArg {
			t.Errorf("Access(%s, %d) = %d, %d", brief(x), i, c, e)
		}
		for _, c := range []byte{0, 'a', 255} {
			if n, e := shaped.Rank(x, c, i); n != 0 || e != api.ErrArg {
				t.Errorf("Rank(%s, %d, %d) = %d, %d", brief(x), c, i, n, e)
			}
			if at, e := shaped.Select(x, c, i); at != 0 || e != api.ErrArg {
				t.Errorf("Select(%s, %d, %d) = %d, %d", brief(x), c, i, at, e)
			}
		}
	}
	if told(x) != before {
		t.Errorf("%s was changed to %s", before, brief(x))
	}
}

// What the document says in numbers is what api has.
func TestNumbers(t *testing.T) {
	if api.MaxText != longest || api.Symbols != 256 || api.KindPlain != 1 || api.KindRrr != 2 || api.KindFano != 3 || api.ErrArg != 2 || api.ErrRange != 3 || api.ErrLong != 4 || api.ErrConfig != 5 {
		t.Error("a limit, a kind or an error has another number")
	}
}

// P13.1 Build: the lengths, and a row for each node, as the chapter's words have them.
func TestBuild(t *testing.T) {
	for _, text := range slices.Concat(texts(), longTexts()) {
		for _, kind := range kinds() {
			given := slices.Clone(text)
			x, e := shaped.Build(kind, given)
			if want := made(t, kind, text); e != api.OK || told(x) != told(want) {
				t.Errorf("Build(%d) of %s = %s, %d, want %s", kind, short(text), brief(x), e, brief(want))
			}
			if !bytes.Equal(given, text) {
				t.Errorf("Build(%d) changed %s", kind, short(text))
			}
		}
	}
}

// written tells the rows of x as texts of 0 and 1.
func written(x api.Shaped) []string {
	var l []string
	for _, node := range x.Nodes {
		s := ""
		for _, bit := range bitsOf(node) {
			s += map[bool]string{false: "0", true: "1"}[bit]
		}
		l = append(l, s)
	}
	return l
}

// P13.1 Build: lengths and rows of some texts, written out.
func TestNodesWrittenOut(t *testing.T) {
	for _, c := range []struct {
		text string
		lens map[byte]int
		rows []string
	}{
		{"", nil, nil},
		{"\x00", map[byte]int{0: 1}, []string{"0"}},
		{"\xff\xff\xff", map[byte]int{255: 1}, []string{"000"}},
		{"aaab", map[byte]int{'a': 1, 'b': 1}, []string{"0001"}},
		{"bbba", map[byte]int{'a': 1, 'b': 1}, []string{"1110"}},
		{"zzaz", map[byte]int{'a': 1, 'z': 1}, []string{"1101"}},
		// c stands twice: its code is 0, that of a 10, that of b 11.
		{"cabc", map[byte]int{'a': 2, 'b': 2, 'c': 1}, []string{"0110", "01"}},
		// a: 0, b: 100, c: 101, d: 110, r: 111; the nodes are that of none, 1, 10 (b, c, b), 11 (r, d, r).
		{"abracadabra", map[byte]int{'a': 1, 'b': 3, 'c': 3, 'd': 3, 'r': 3}, []string{"01101010110", "010101", "010", "101"}},
		// d: 0, c: 10, a: 110, b: 111.
		{"abccdddd", map[byte]int{'a': 3, 'b': 3, 'c': 2, 'd': 1}, []string{"11110000", "1100", "01"}},
	} {
		for _, kind := range kinds() {
			x := built(t, kind, []byte(c.text))
			if !slices.Equal(x.Lens, lensOf(c.lens)) || !slices.Equal(written(x), c.rows) || x.Kind != kind || x.N != len(c.text) {
				t.Errorf("Build(%d) of %q = kind %d, N %d, lengths %v, rows %q", kind, c.text, x.Kind, x.N, x.Lens, written(x))
			}
			for _, node := range x.Nodes {
				if node.Kind != kind {
					t.Errorf("Build(%d) of %q has a row of kind %d", kind, c.text, node.Kind)
				}
			}
		}
	}
}

// P13.1 Build: counts that grow as 1, 1, 2, 3, 5, 8 make each code but one a bit longer than the next; there is one node for each of its lengths.
func TestLongCodes(t *testing.T) {
	for _, kind := range kinds() {
		x := built(t, kind, longCodes())
		if len(x.Nodes) != 17 || x.Lens['A'] != 17 || x.Lens['B'] != 17 {
			t.Errorf("of kind %d there are %d nodes, lengths %d and %d", kind, len(x.Nodes), x.Lens['A'], x.Lens['B'])
		}
		for c := byte('C'); c <= 'R'; c++ {
			if want := 17 - int(c-'B'); x.Lens[c] != want {
				t.Errorf("of kind %d the length of %c is %d, want %d", kind, c, x.Lens[c], want)
			}
		}
	}
}

// P13.1 Build: ErrLong, named first: whichever the kind, also where there is none such.
func TestBuildOfTooLong(t *testing.T) {
	for _, text := range tooLong() {
		for _, kind := range slices.Concat(kinds(), noKinds()) {
			given := slices.Clone(text)
			if x, e := shaped.Build(kind, given); e != api.ErrLong || told(x) != told(api.Shaped{}) {
				t.Errorf("Build(%d) of %s = %s, %d, want ErrLong", kind, short(text), brief(x), e)
			}
			if !bytes.Equal(given, text) {
				t.Errorf("Build(%d) changed %s", kind, short(text))
			}
		}
	}
}

// P13.1 Build: ErrConfig of a kind that there is not, with nothing beside it, whatever the text; also of one without symbols, which has no rows.
func TestBuildOfNoKind(t *testing.T) {
	for _, text := range slices.Concat(texts(), longTexts()) {
		for _, kind := range noKinds() {
			if x, e := shaped.Build(kind, text); e != api.ErrConfig || told(x) != told(api.Shaped{}) {
				t.Errorf("Build(%d) of %s = %s, %d, want ErrConfig", kind, short(text), brief(x), e)
			}
		}
	}
}

// P13.1, P13.2 and P13.3: what is built may be, its text is the text, and all that is asked of it is told by that.
func TestAnswers(t *testing.T) {
	for _, text := range slices.Concat(texts(), longTexts()[:4]) {
		for _, kind := range kinds() {
			wantTaken(t, built(t, kind, text), text)
		}
	}
	for _, kind := range kinds() {
		wantTaken(t, made(t, kind, []byte("abracadabra")), []byte("abracadabra"))
		for _, text := range longTexts()[4:] {
			if x := built(t, kind, text); !shaped.Check(x) || !bytes.Equal(shaped.Text(x), text) {
				t.Errorf("of kind %d, %s is not taken", kind, short(text))
			}
		}
	}
}

// P13.2: all places and counts of all symbols.
func TestAllAsked(t *testing.T) {
	for _, text := range [][]byte{nil, alone(97, 20), []byte("abracadabra"), scattered(70), few(130), mixed(grown(7, 6, 5, 4, 3, 2, 1)), falling(256)} {
		stands := places(text)
		for _, kind := range kinds() {
			x := built(t, kind, text)
			for c := range 256 {
				for k, want := range stands[c] {
					if at, e := shaped.Select(x, byte(c), k); at != want || e != api.OK {
						t.Fatalf("Select(%s, %d, %d) = %d, %d, want %d", brief(x), c, k, at, e, want)
					}
				}
				if at, e := shaped.Select(x, byte(c), len(stands[c])); at != 0 || e != api.ErrRange {
					t.Fatalf("Select(%s, %d, %d) = %d, %d, want ErrRange", brief(x), c, len(stands[c]), at, e)
				}
			}
			for i := range len(text) + 1 {
				for c := i % 47; c < 256; c += 47 { // other symbols at each place
					want := bytes.Count(text[:i], []byte{byte(c)})
					if got, e := shaped.Rank(x, byte(c), i); got != want || e != api.OK {
						t.Fatalf("Rank(%s, %d, %d) = %d, %d, want %d", brief(x), c, i, got, e, want)
					}
				}
			}
			for i, want := range text {
				if c, e := shaped.Access(x, i); c != want || e != api.OK {
					t.Fatalf("Access(%s, %d) = %d, %d, want %d", brief(x), i, c, e, want)
				}
			}
		}
	}
}

// P13.2 Rank and Select: each symbol that stands in a text and each that does not, at the edges.
func TestEachSymbolAtTheEdges(t *testing.T) {
	for _, text := range [][]byte{nil, {0}, {255}, []byte("abracadabra"), few(64)} {
		stands := places(text)
		for _, kind := range kinds() {
			x := built(t, kind, text)
			for c := range 256 {
				wantRank(t, x, byte(c), text)
				wantSelect(t, x, byte(c), stands[c])
			}
		}
	}
}

// P13.3: all texts of one symbol, and all of two and three of some symbols.
func TestShortestTexts(t *testing.T) {
	some := []byte{0, 1, 127, 128, 254, 255}
	for _, kind := range kinds() {
		for c := range 256 {
			text := []byte{byte(c)}
			wantBuilt(t, made(t, kind, text), text)
			wantAccess(t, built(t, kind, text), text)
		}
		for _, a := range some {
			for _, b := range some {
				text := []byte{a, b}
				wantTaken(t, built(t, kind, text), text)
				for _, c := range some {
					text := []byte{a, b, c}
					wantBuilt(t, made(t, kind, text), text)
				}
			}
		}
	}
}

// P13.1 Size: some sums written out.
func TestSizes(t *testing.T) {
	const lens = 6 * 256
	for _, c := range []struct {
		text string
		want [4]int
	}{
		{"", [4]int{1: lens, 2: lens, 3: lens}},
		// One bit 0, a number of Super, one of Sub; one block of class 0; High 2, as w is 0.
		{"z", [4]int{1: lens + 1 + 32 + 16, 2: lens + 4 + 64, 3: lens + 2 + 64}},
		{strings.Repeat("z", 64), [4]int{1: lens + 64 + 32 + 16, 2: lens + 5*4 + 64, 3: lens + 65 + 64}},
		// 0 0 0 1: a block of one bit 1 is one of 15, four bits of offset; w is 2, Low 2, High 3.
		{"aaab", [4]int{1: lens + 4 + 32 + 16, 2: lens + 4 + 4 + 64, 3: lens + 2 + 3 + 64}},
		// 0 1 1 0 and 0 1: a block of two bits 1 is one of 105, seven bits; w is 1 both times, Low 2 and 1, High 2 + 2 + 1 and 1 + 1 + 1.
		{"cabc", [4]int{1: lens + 4 + 32 + 16 + 2 + 32 + 16, 2: lens + 4 + 7 + 64 + 4 + 4 + 64, 3: lens + 2 + 5 + 64 + 1 + 3 + 64}},
	} {
		for _, kind := range kinds() {
			if got := shaped.Size(built(t, kind, []byte(c.text))); got != c.want[kind] {
				t.Errorf("Size of %q of kind %d = %d, want %d", c.text, kind, got, c.want[kind])
			}
		}
	}
}

// P13.1 Check: a value that no call made.
func TestZeroValues(t *testing.T) {
	wantRefused(t, api.Shaped{})
	for _, kind := range slices.Concat(kinds(), noKinds()) {
		for _, lens := range []int{0, 1, 255, 257} {
			for _, count := range []int{0, 1, 2, 256} {
				x := api.Shaped{Kind: kind, Lens: make([]int, lens), Nodes: make([]api.Vector, count)}
				wantRefused(t, x)
				for l := range x.Nodes {
					x.Nodes[l].Kind = kind
				}
				wantRefused(t, x)
			}
		}
	}
}

// P13.1 Check: the text without symbols is its lengths alone, of a kind that there is.
func TestNoSymbols(t *testing.T) {
	for _, kind := range kinds() {
		wantTaken(t, api.Shaped{Kind: kind, Lens: make([]int, 256)}, nil)
		wantTaken(t, api.Shaped{Kind: kind, Lens: make([]int, 256), Nodes: []api.Vector{}}, nil)
		wantRefused(t, api.Shaped{Kind: kind, Lens: make([]int, 256), Nodes: []api.Vector{rowMade(t, kind, nil)}})
		wantRefused(t, api.Shaped{Kind: kind, Lens: lensOf(map[byte]int{0: 1}), Nodes: []api.Vector{rowMade(t, kind, nil)}})
		for _, n := range append(far(), 1) {
			wantRefused(t, api.Shaped{Kind: kind, N: n, Lens: make([]int, 256)})
		}
	}
	for _, kind := range noKinds() {
		wantRefused(t, api.Shaped{Kind: kind, Lens: make([]int, 256)})
	}
}

// P13.1 Check: rows that are too few, or too many, are those of no text.
func TestRowsMissing(t *testing.T) {
	for i, text := range texts() {
		for _, kind := range kinds() {
			x := built(t, kind, text)
			all := len(x.Nodes)
			if all > 50 && i%3 != kind%3 { // of many nodes one kind is enough
				continue
			}
			for _, count := range []int{0, 1, 2, all / 2, all - 1} {
				if count >= 0 && count < all {
					wantRefused(t, changed(x, func(y *api.Shaped) { y.Nodes = y.Nodes[:count] })) // the room behind holds the others
					wantRefused(t, changed(x, func(y *api.Shaped) { y.Nodes = y.Nodes[all-count:] }))
				}
			}
			wantRefused(t, changed(x, func(y *api.Shaped) { y.Nodes = append(y.Nodes, api.Vector{}) }))
			wantRefused(t, changed(x, func(y *api.Shaped) { y.Nodes = append(y.Nodes, rowMade(t, kind, nil)) }))
			if all > 0 {
				wantRefused(t, changed(x, func(y *api.Shaped) { y.Nodes = nil }))
				wantRefused(t, changed(x, func(y *api.Shaped) { y.Nodes = append(y.Nodes, y.Nodes[all-1]) }))
				wantRefused(t, changed(x, func(y *api.Shaped) { y.Nodes = append(y.Nodes, y.Nodes...) }))
			}
		}
	}
	wantRefused(t, changed(built(t, 1, []byte{0}), func(y *api.Shaped) { y.Nodes = slices.Repeat(y.Nodes, 1<<12) }))
}

// P13.1 Check: a value of another kind, or of another length, than its rows.
func TestKindOrLengthAnother(t *testing.T) {
	for _, text := range [][]byte{{0}, {255, 0}, []byte("aaab"), []byte("abracadabra"), alone(113, 64), scattered(65), few(300), falling(256), mixed(grown(6, 5, 4, 3, 2, 1)), few(longest)} {
		n := len(text)
		for _, kind := range kinds() {
			x := built(t, kind, text)
			for _, other := range slices.Concat(kinds(), noKinds()) {
				if other != kind {
					wantRefused(t, changed(x, func(y *api.Shaped) { y.Kind = other }))
				}
			}
			for _, other := range append(far(), n-1, n+1, n+64, 2*n+1) {
				if other != n {
					wantRefused(t, changed(x, func(y *api.Shaped) { y.N = other }))
				}
			}
		}
	}
}

// P13.1 Check: a value one of whose rows is not of its kind, or not of its length, or is none.
func TestRowAnother(t *testing.T) {
	for _, text := range [][]byte{{97}, []byte("aaab"), []byte("abracadabra"), few(300), mixed(grown(6, 5, 4, 3, 2, 1))} {
		codes, _ := walkedCodes(walkedLens(text))
		for _, kind := range kinds() {
			x := built(t, kind, text)
			for l, node := range walkedNodes(codes) {
				bits := walked(text, codes, node)
				others := []api.Vector{{}, {Kind: kind}, rowMade(t, kind, append(slices.Clone(bits), false)), rowMade(t, kind, append(slices.Clone(bits), true)), rowMade(t, kind, bits[1:]), rowMade(t, kind, nil)}
				for _, other := range kinds() {
					if other != kind {
						others = append(others, rowMade(t, other, bits))
					}
				}
				for _, other := range others {
					wantRefused(t, changed(x, func(y *api.Shaped) { y.Nodes[l] = other }))
				}
			}
		}
	}
}

// P13.1 Check: all else is as Build makes it, but the text would be too long.
func TestTooLongInRows(t *testing.T) {
	for _, kind := range kinds() {
		for _, text := range tooLong()[:2] {
			wantRefused(t, made(t, kind, text))
			if x := made(t, kind, text[1:]); !shaped.Check(x) || !bytes.Equal(shaped.Text(x), text[1:]) {
				t.Errorf("of kind %d, %s is not taken", kind, short(text[1:]))
			}
		}
	}
}

// wantBuilt checks that x is taken, and just what Build answers of the text: then it answers as that does.
func wantBuilt(t *testing.T, x api.Shaped, text []byte) {
	t.Helper()
	if got := shaped.Text(x); !shaped.Check(x) || !bytes.Equal(got, text) {
		t.Fatalf("%s is not taken for %s, but for %s", brief(x), short(text), short(got))
	}
	if y := built(t, x.Kind, text); told(y) != told(x) {
		t.Errorf("%s is taken, but not Build of its text: %s", brief(x), brief(y))
	}
}

// wantAsText checks that x is taken if it is what the chapter's words make of the text that it tells, else refused. It answers whether it is taken.
func wantAsText(t *testing.T, x api.Shaped) bool {
	t.Helper()
	text, tells := unwalked(x)
	if tells && slices.Contains(kinds(), x.Kind) && told(made(t, x.Kind, text)) == told(x) {
		wantBuilt(t, x, text)
		return true
	}
	wantRefused(t, x)
	return false
}

// P13.1 Check: values of which one bit of a row is changed, whether within it, behind its end, or in what stands beside it.
func TestOneBitAnother(t *testing.T) {
	taken, refused := 0, 0
	for _, text := range [][]byte{{97}, []byte("aaab"), alone(9, 64), []byte("abracadabra"), few(130), scattered(20)} {
		for _, kind := range kinds() {
			x := built(t, kind, text)
			for l := range x.Nodes {
				for i, words := range wordsOf(&x.Nodes[l]) {
					for at := range 64 * len(*words) {
						if at%64 > 16 && at%5 != l%5 {
							continue
						}
						y := changed(x, func(y *api.Shaped) { (*wordsOf(&y.Nodes[l])[i])[at/64] ^= 1 << (at % 64) })
						if wantAsText(t, y) {
							taken++
						} else {
							refused++
						}
					}
				}
			}
		}
	}
	if taken < 50 || refused < 500 {
		t.Errorf("%d values are taken, %d are refused: both should be many", taken, refused)
	}
}

// P13.1 Check: values of which one bit of the bits that a row tells is another: those of the nodes below, or the lengths of codes, may belong to no text then.
func TestOneBitToldAnother(t *testing.T) {
	taken, refused := 0, 0
	for _, text := range [][]byte{{97}, alone(255, 20), []byte("aaab"), []byte("aabb"), []byte("abracadabra"), few(64), mixed(grown(6, 5, 4, 3, 2, 1)), scattered(40)} {
		for _, kind := range kinds() {
			x := built(t, kind, text)
			for l, node := range x.Nodes {
				bits := bitsOf(node)
				for i := range bits {
					other := slices.Clone(bits)
					other[i] = !other[i]
					if wantAsText(t, changed(x, func(y *api.Shaped) { y.Nodes[l] = rowMade(t, kind, other) })) {
						taken++
					} else {
						refused++
					}
				}
			}
		}
	}
	if taken < 50 || refused < 500 {
		t.Errorf("%d values are taken, %d are refused: both should be many", taken, refused)
	}
}

// P13.1 Check: a symbol alone has a code of one bit that is 0; a bit 1 leads to none.
func TestAloneWithBitsThatLeadNowhere(t *testing.T) {
	for _, kind := range kinds() {
		for _, c := range []byte{0, 97, 255} {
			for _, bits := range [][]bool{{true}, {true, true}, {false, true}, {true, false, false}, slices.Repeat([]bool{true}, 300)} {
				wantRefused(t, api.Shaped{Kind: kind, N: len(bits), Lens: lensOf(map[byte]int{c: 1}), Nodes: []api.Vector{rowMade(t, kind, bits)}})
			}
		}
	}
}

// P13.1 Check: values of which one number, or one list, of a row is changed.
func TestOneNumberAnother(t *testing.T) {
	refused := 0
	count := func(y api.Shaped) {
		if !wantAsText(t, y) {
			refused++
		}
	}
	for _, text := range [][]byte{{255}, []byte("aaab"), []byte("abracadabra"), few(130)} {
		for _, kind := range kinds() {
			x := built(t, kind, text)
			for l := range x.Nodes {
				for i, number := range countsOf(&x.Nodes[l]) {
					for _, n := range []int{math.MinInt, -1, *number - 1, *number + 1, math.MaxInt} {
						count(changed(x, func(y *api.Shaped) { *countsOf(&y.Nodes[l])[i] = n }))
					}
				}
				for i, numbers := range numbersOf(&x.Nodes[l]) {
					count(changed(x, func(y *api.Shaped) { n := numbersOf(&y.Nodes[l])[i]; *n = append(*n, 0) }))
					for j := range *numbers {
						count(changed(x, func(y *api.Shaped) { (*numbersOf(&y.Nodes[l])[i])[j]++ }))
					}
				}
				for i := range wordsOf(&x.Nodes[l]) {
					count(changed(x, func(y *api.Shaped) { w := wordsOf(&y.Nodes[l])[i]; *w = append(*w, 0) }))
				}
			}
		}
	}
	if refused < 1000 {
		t.Errorf("%d values are refused: they should be many", refused)
	}
}

// P13.1 Check: two rows exchanged, or one in place of another, tell another text, or none.
func TestRowsExchanged(t *testing.T) {
	taken, refused := 0, 0
	count := func(y api.Shaped) {
		if wantAsText(t, y) {
			taken++
		} else {
			refused++
		}
	}
	for _, text := range [][]byte{[]byte("abcdbadc"), []byte("abcd"), []byte("abracadabra"), few(64), rising(16), scattered(20)} {
		for _, kind := range kinds() {
			x := built(t, kind, text)
			for a := range x.Nodes {
				for b := range a {
					count(changed(x, func(y *api.Shaped) { y.Nodes[a], y.Nodes[b] = y.Nodes[b], y.Nodes[a] }))
					count(changed(x, func(y *api.Shaped) { y.Nodes[a] = y.Nodes[b] }))
				}
			}
		}
	}
	if taken < 50 || refused < 500 {
		t.Errorf("%d values are taken, %d are refused: both should be many", taken, refused)
	}
}

// P13.1 Check: other lengths of codes than Build's, of which some fit, and some do not.
func TestLengthsAnother(t *testing.T) {
	taken, refused := 0, 0
	count := func(y api.Shaped) {
		if wantAsText(t, y) {
			taken++
		} else {
			refused++
		}
	}
	for _, text := range [][]byte{nil, {97}, []byte("aaab"), []byte("abracadabra"), few(64), rising(256)} {
		for _, kind := range kinds() {
			x := built(t, kind, text)
			for c := kind; c < 256; c += 3 + len(x.Nodes)/4 {
				for _, length := range []int{math.MinInt, -1, 0, 1, 2, x.Lens[c] - 1, x.Lens[c] + 1, 40, 41, 64, math.MaxInt} {
					if length != x.Lens[c] {
						count(changed(x, func(y *api.Shaped) { y.Lens[c] = length }))
					}
				}
				next := (c + 1) % 256
				count(changed(x, func(y *api.Shaped) { y.Lens[c], y.Lens[next] = y.Lens[next], y.Lens[c] }))
			}
			for _, lens := range [][]int{nil, {}, x.Lens[:255], x.Lens[1:], append(slices.Clone(x.Lens), 0), slices.Repeat(x.Lens, 2), slices.Repeat([]int{40}, 256)} {
				wantRefused(t, changed(x, func(y *api.Shaped) { y.Lens = lens }))
			}
			if len(text) < 256 {
				wantRefused(t, changed(x, func(y *api.Shaped) { y.Lens = slices.Repeat([]int{8}, 256) }))
			}
		}
	}
	if taken < 50 || refused < 500 {
		t.Errorf("%d values are taken, %d are refused: both should be many", taken, refused)
	}
}

// P13.1 Check: rows along codes that fit, but whose lengths are not those that the counts of the symbols have.
func TestLengthsOfOtherCounts(t *testing.T) {
	for _, c := range []struct {
		text string
		lens map[byte]int
	}{
		{"abcd", map[byte]int{'a': 1, 'b': 2, 'c': 3, 'd': 3}},
		{"abccdd", map[byte]int{'a': 3, 'b': 3, 'c': 1, 'd': 2}}, // they need as few bits as 2, 2, 2, 2, or 3, 3, 2, 1
		{"abccdd", map[byte]int{'a': 3, 'b': 3, 'c': 2, 'd': 1}},
		{"abccdddd", map[byte]int{'a': 2, 'b': 2, 'c': 2, 'd': 2}},
		{"abcc", map[byte]int{'a': 1, 'b': 2, 'c': 2}},
		{"abc", map[byte]int{'a': 1, 'b': 2, 'c': 2}}, // a and b are the two least of three likes
		{"abc", map[byte]int{'a': 2, 'b': 1, 'c': 2}},
		{"aaa", map[byte]int{'a': 1, 'b': 1}}, // b does not stand there
		{"bbb", map[byte]int{'a': 1, 'b': 1}},
		{"aaab", map[byte]int{'a': 1, 'b': 2, 'c': 2}},
		{"", map[byte]int{'a': 1, 'b': 1}},
		{"", map[byte]int{'a': 1}},
		{"", map[byte]int{0: 1, 128: 2, 255: 2}},
	} {
		for _, kind := range kinds() {
			if x := madeOf(t, kind, []byte(c.text), lensOf(c.lens)); slices.Equal(x.Lens, built(t, kind, []byte(c.text)).Lens) {
				t.Errorf("%q has these lengths", c.text)
			} else {
				wantRefused(t, x)
			}
		}
	}
	for _, kind := range kinds() {
		wantRefused(t, madeOf(t, kind, few(300), slices.Repeat([]int{8}, 256)))
		wantRefused(t, madeOf(t, kind, nil, slices.Repeat([]int{8}, 256)))
		long := lensOf(map[byte]int{0: 40})
		for c := range 40 {
			long[c+1] = 40 - c
		}
		wantRefused(t, madeOf(t, kind, rising(41), long))
	}
}

// P13.1 Check: symbols that others stand in place of, in their order, have the lengths of those.
func TestOtherSymbolsAlike(t *testing.T) {
	for _, kind := range kinds() {
		x := built(t, kind, []byte("abracadabra"))
		wantTaken(t, changed(x, func(y *api.Shaped) {
			y.Lens = lensOf(map[byte]int{0: 1, 'b': 3, 'c': 3, 'x': 3, 255: 3})
		}), []byte("\x00b\xff\x00c\x00x\x00b\xff\x00"))
	}
}

// R3: nil and empty lists are the same.
func TestEmptyLists(t *testing.T) {
	for _, kind := range kinds() {
		for _, text := range [][]byte{nil, {97}, []byte("abracadabra")} {
			wantTaken(t, changed(built(t, kind, text), func(x *api.Shaped) {
				x.Lens = append(make([]int, 0, 300), x.Lens...)
				x.Nodes = append(make([]api.Vector, 0, 300), x.Nodes...)
				for l := range x.Nodes {
					for _, w := range wordsOf(&x.Nodes[l]) {
						*w = append(make([]uint64, 0, 2), *w...)
					}
					for _, n := range numbersOf(&x.Nodes[l]) {
						*n = append(make([]int, 0, 2), *n...)
					}
				}
			}), text)
		}
		if a, b := built(t, kind, nil), built(t, kind, []byte{}); told(a) != told(b) {
			t.Errorf("Build(%d) of nil is %s, of an empty text %s", kind, told(a), told(b))
		}
	}
}

// R3: what is built shares nothing with the text, nor with what stands behind its end.
func TestTextGiven(t *testing.T) {
	for _, kind := range kinds() {
		for _, n := range []int{0, 1, 64, 299} {
			room := scattered(300)
			x := built(t, kind, room[:n])
			if !bytes.Equal(room, scattered(300)) {
				t.Errorf("Build(%d) changed its text of %d bytes, or what is behind", kind, n)
			}
			want := told(x)
			clear(room)
			if told(x) != want {
				t.Errorf("Build(%d) of %d bytes shares memory with its text", kind, n)
			}
		}
	}
}

// fill puts numbers of their own into all lists of x.
func fill(x api.Shaped) {
	for c := range x.Lens {
		x.Lens[c] = -1
	}
	for l := range x.Nodes {
		for i, w := range wordsOf(&x.Nodes[l]) {
			for j := range *w {
				(*w)[j] = uint64(100*l + i)
			}
		}
		for i, n := range numbersOf(&x.Nodes[l]) {
			for j := range *n {
				(*n)[j] = 100*l + i
			}
		}
	}
}

// R3: the lists of what is built share nothing with one another, nor with those of what else is built.
func TestListsApart(t *testing.T) {
	for _, kind := range kinds() {
		for _, text := range [][]byte{nil, alone(97, 300), []byte("abracadabra"), scattered(300)} {
			x, other := built(t, kind, text), built(t, kind, text)
			want := told(other)
			fill(x)
			if told(other) != want || told(built(t, kind, text)) != want {
				t.Errorf("two values of kind %d of one text share memory", kind)
			}
			if slices.ContainsFunc(x.Lens, func(n int) bool { return n != -1 }) {
				t.Errorf("lengths of kind %d are the numbers of a row", kind)
			}
			for l := range x.Nodes {
				for i, w := range wordsOf(&x.Nodes[l]) {
					if slices.ContainsFunc(*w, func(v uint64) bool { return v != uint64(100*l+i) }) {
						t.Errorf("words %d of row %d of kind %d are those of another", i, l, kind)
					}
				}
				for i, n := range numbersOf(&x.Nodes[l]) {
					if slices.ContainsFunc(*n, func(v int) bool { return v != 100*l+i }) {
						t.Errorf("numbers %d of row %d of kind %d are those of another", i, l, kind)
					}
				}
			}
		}
	}
}

// R3: the text that is answered is the caller's own.
func TestTextAnswered(t *testing.T) {
	for _, kind := range kinds() {
		for _, text := range [][]byte{[]byte("abracadabra"), alone(5, 100), scattered(300)} {
			x := built(t, kind, text)
			want := told(x)
			first, second := shaped.Text(x), shaped.Text(x)
			for i := range first {
				first[i] ^= 255
			}
			if !bytes.Equal(second, text) || !bytes.Equal(shaped.Text(x), text) || told(x) != want {
				t.Errorf("Text of kind %d shares memory", kind)
			}
		}
	}
}

// R8: the same call answers the same, whichever way the nodes are gone through.
func TestSameAgain(t *testing.T) {
	text := scattered(300)
	for _, kind := range kinds() {
		want := told(built(t, kind, text))
		for range 20 {
			if x := built(t, kind, text); told(x) != want || !bytes.Equal(shaped.Text(x), text) {
				t.Fatalf("Build(%d) is another one", kind)
			}
		}
	}
}

// The chapter's example.
func TestExample(t *testing.T) {
	for _, kind := range kinds() {
		x := built(t, kind, []byte("aaab"))
		if got := written(x); !slices.Equal(got, []string{"0001"}) {
			t.Errorf("of kind %d: aaab has the nodes %q", kind, got)
		}
	}
}
