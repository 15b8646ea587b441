package boost_test

import (
	"bytes"
	"fmt"
	"math"
	"slices"
	"testing"

	"haystack/api"
	"haystack/boost"
	"haystack/matrix"
	"haystack/shaped"
	"haystack/tree"
	"haystack/vector"
)

const longest = 1 << 13 // MaxText, written out as the document does

// shapes are the shapes that a Part may have, by the numbers that the document gives them.
func shapes() []int {
	return []int{1, 2, 3}
}

// kinds are the kinds that there are, by the numbers that the document gives them.
func kinds() []int {
	return []int{1, 2, 3}
}

// logs are those that blocks may have.
func logs() []int {
	return []int{4, 5, 6, 7, 8, 9, 10, 11, 12}
}

// none are numbers that are neither a shape of a Part nor a kind.
func none() []int {
	return []int{math.MinInt, math.MinInt + 1, -1 << 32, -3, -2, -1, 0, 4, 5, 255, 256, 257, 1<<32 + 1, 1<<32 + 2, 1<<32 + 3, math.MaxInt - 1, math.MaxInt}
}

// noLogs are numbers that are the log of no block.
func noLogs() []int {
	return []int{math.MinInt, math.MinInt + 4, -1 << 32, -12, -4, -1, 0, 1, 2, 3, 13, 14, 20, 63, 64, 68, 1<<32 + 4, math.MaxInt - 1, math.MaxInt}
}

// scattered answers n symbols of a fixed row that has all of them.
func scattered(n int) []byte {
	text := make([]byte, n)
	x := uint64(88172645463325252)
	for i := range text {
		x ^= x << 13
		x ^= x >> 7
		x ^= x << 17
		text[i] = byte(x >> 40)
	}
	return text
}

// few answers n symbols of a fixed row that has few of them, some far more often than others.
func few(n int) []byte {
	text := scattered(n)
	for i, c := range text {
		text[i] = "aaaaaaaabbbbccd\x00"[c%16]
	}
	return text
}

// rising answers n symbols, each of them the one that comes behind the one ahead; 0 comes behind 255.
func rising(n int) []byte {
	text := make([]byte, n)
	for i := range text {
		text[i] = byte(i)
	}
	return text
}

// alone answers n times one symbol.
func alone(c byte, n int) []byte {
	return bytes.Repeat([]byte{c}, n)
}

// apart answers n symbols of which one stands in few blocks, and far from one another.
func apart(n int) []byte {
	text := rising(n)
	for i := range text {
		text[i] %= 7
	}
	for _, i := range []int{n / 20, n / 3, n / 3 * 2, n - 1} {
		if i >= 0 && i < n {
			text[i] = 200
		}
	}
	return text
}

// lengths are those of the short texts: at, and beside, the ends of blocks.
func lengths() []int {
	return []int{0, 1, 15, 16, 17, 40, 255, 256, 257, 300}
}

// texts are the short texts.
func texts() [][]byte {
	l := [][]byte{nil, {0}, {255}, {97}, []byte("abracadabra"), alone(0, 300), alone(255, 256)}
	for _, n := range lengths() {
		l = append(l, alone(113, n), scattered(n), few(n), rising(n), apart(n))
	}
	return l
}

// longTexts are texts of as many bytes as a text has at most.
func longTexts() [][]byte {
	return [][]byte{scattered(longest), few(longest), alone(255, longest), apart(longest), rising(longest)}
}

// tooLong are texts that are longer than a text is.
func tooLong() [][]byte {
	return [][]byte{scattered(longest + 1), alone(0, longest+1), alone(255, longest+64), rising(2 * longest), rising(1 << 16)}
}

// far are places and counts far from every text.
func far() []int {
	return []int{math.MinInt, math.MinInt + 1, math.MinInt32, -longest, -2, -1, longest + 1, 1 << 20, math.MaxInt32, 1 << 32, math.MaxInt - longest, math.MaxInt - 1, math.MaxInt}
}

// partMade answers a Part by the chapter's words, without the package that is tested: its layer's Build, the other fields zero.
func partMade(t *testing.T, shape int, kind int, text []byte) api.Part {
	t.Helper()
	x, e := api.Part{Shape: shape}, api.ErrConfig
	switch shape {
	case 1:
		x.Tree, e = tree.Build(kind, text)
	case 2:
		x.Shaped, e = shaped.Build(kind, text)
	case 3:
		x.Matrix, e = matrix.Build(kind, text)
	}
	if e != api.OK {
		t.Fatalf("the layer of shape %d refuses %s of kind %d: %d", shape, short(text), kind, e)
	}
	return x
}

// made answers the value of a text by the chapter's words, without the package that is tested: block b has the symbols from b times 2 to the power of log on, and ahead of it stands each symbol as often as in the text up to there.
func made(t *testing.T, inner int, kind int, log int, text []byte) api.Boost {
	t.Helper()
	size := 1
	for range log {
		size *= 2
	}
	x := api.Boost{Inner: inner, Kind: kind, Log: log, N: len(text)}
	for start := 0; start < len(text); start += size {
		x.Parts = append(x.Parts, partMade(t, inner, kind, text[start:min(start+size, len(text))]))
		for c := range 256 {
			x.Ahead = append(x.Ahead, bytes.Count(text[:start], []byte{byte(c)}))
		}
	}
	return x
}

// partText answers the text of a Part that is taken by its layer, without the package that is tested.
func partText(x api.Part) []byte {
	switch x.Shape {
	case 1:
		return tree.Text(x.Tree)
	case 2:
		return shaped.Text(x.Shaped)
	case 3:
		return matrix.Text(x.Matrix)
	}
	return nil
}

// partSize answers how many bits a Part needs, without the package that is tested.
func partSize(x api.Part) int {
	return tree.Size(x.Tree) + shaped.Size(x.Shaped) + matrix.Size(x.Matrix)
}

// partBuilt answers Make of a text.
func partBuilt(t *testing.T, shape int, kind int, text []byte) api.Part {
	t.Helper()
	x, e := boost.Make(shape, kind, text)
	if e != api.OK {
		t.Fatalf("Make(%d, %d) of %s: %d", shape, kind, short(text), e)
	}
	return x
}

// built answers Build of a text.
func built(t *testing.T, inner int, kind int, log int, text []byte) api.Boost {
	t.Helper()
	x, e := boost.Build(inner, kind, log, text)
	if e != api.OK {
		t.Fatalf("Build(%d, %d, %d) of %s: %d", inner, kind, log, short(text), e)
	}
	return x
}

// told tells all of a value: two of one type that are told alike are alike; nil and empty lists are.
func told[T any](x T) string {
	return fmt.Sprintf("%v", x)
}

// short tells a text in few words.
func short(text []byte) string {
	return fmt.Sprintf("%d bytes %q..", len(text), text[:min(12, len(text))])
}

// partBrief tells a Part in few words.
func partBrief(x api.Part) string {
	all := told(x)
	return all[:min(200, len(all))] + ".."
}

// brief tells a value in few words.
func brief(x api.Boost) string {
	all := ""
	if len(x.Parts) > 0 {
		all = partBrief(x.Parts[0])
	}
	return fmt.Sprintf("{inner %d, kind %d, log %d, N %d, %d of Ahead, %d Parts %s}", x.Inner, x.Kind, x.Log, x.N, len(x.Ahead), len(x.Parts), all)
}

// vectorsOf answers the lists of rows that a Part has.
func vectorsOf(x *api.Part) []*[]api.Vector {
	return []*[]api.Vector{&x.Tree.Levels, &x.Shaped.Nodes, &x.Matrix.Levels}
}

// rowsOf answers all rows that a Part has.
func rowsOf(x *api.Part) []*api.Vector {
	var l []*api.Vector
	for _, rows := range vectorsOf(x) {
		for i := range *rows {
			l = append(l, &(*rows)[i])
		}
	}
	return l
}

// wordsOf answers the lists of words that a Part has.
func wordsOf(x *api.Part) []*[]uint64 {
	var l []*[]uint64
	for _, row := range rowsOf(x) {
		l = append(l, &row.Plain.Bits.W, &row.Rrr.Class.Bits.W, &row.Rrr.Off.W, &row.Fano.Low.Bits.W, &row.Fano.High.W)
	}
	return l
}

// numbersOf answers the lists of numbers that a Part has.
func numbersOf(x *api.Part) []*[]int {
	l := []*[]int{&x.Shaped.Lens, &x.Matrix.Zeros}
	for _, row := range rowsOf(x) {
		l = append(l, &row.Plain.Super, &row.Plain.Sub, &row.Rrr.Ones, &row.Rrr.Points)
	}
	return l
}

// partClone answers a Part in lists of its own.
func partClone(x api.Part) api.Part {
	for _, rows := range vectorsOf(&x) {
		*rows = slices.Clone(*rows)
	}
	for _, w := range wordsOf(&x) {
		*w = slices.Clone(*w)
	}
	for _, n := range numbersOf(&x) {
		*n = slices.Clone(*n)
	}
	return x
}

// partChanged answers a Part with something changed by f, in lists of their own.
func partChanged(x api.Part, f func(x *api.Part)) api.Part {
	y := partClone(x)
	f(&y)
	return y
}

// changed answers x with something changed by f, in lists of their own.
func changed(x api.Boost, f func(x *api.Boost)) api.Boost {
	x.Parts, x.Ahead = slices.Clone(x.Parts), slices.Clone(x.Ahead)
	for b := range x.Parts {
		x.Parts[b] = partClone(x.Parts[b])
	}
	f(&x)
	return x
}

// places answers where each symbol stands in a text.
func places(text []byte) [256][]int {
	var l [256][]int
	for i, c := range text {
		l[c] = append(l[c], i)
	}
	return l
}

// asked are the places, or counts, at which n of them are asked: all of few; of many those at the ends and some others.
func asked(n int) []int {
	var l []int
	if n <= 8 {
		for i := range n {
			l = append(l, i)
		}
		return l
	}
	return []int{0, 1, n / 3, n - 2, n - 1}
}

// atBlocks are the places, from 0 to n, at the beginnings and the ends of blocks; of many blocks some, the first and the last ones among them.
func atBlocks(log int, n int) []int {
	l := []int{0, n}
	count := n >> log
	step := 1 + count/5
	for b := 0; b <= count; b += step {
		for _, i := range []int{b<<log - 1, b << log, b<<log + 1, count<<log - 1, count << log, count<<log + 1} {
			if i >= 0 && i <= n && !slices.Contains(l, i) {
				l = append(l, i)
			}
		}
	}
	return l
}

// symbols answers some of those that stand in a text, and some that do not.
func symbols(text []byte) []byte {
	l := []byte{0, 'a', 200}
	for _, i := range asked(len(text)) {
		for _, c := range []byte{text[i] - 1, text[i], text[i] + 1} {
			if !slices.Contains(l, c) {
				l = append(l, c)
			}
		}
	}
	return l[:min(len(l), 7)]
}

// wantTaken checks that x is taken for the text, and that all answers are those of the text.
func wantTaken(t *testing.T, x api.Boost, text []byte) {
	t.Helper()
	before := told(x)
	wantText(t, x, text)
	size := 16 * len(x.Ahead)
	for _, part := range x.Parts {
		size += partSize(part)
	}
	if got := boost.Size(x); got != size {
		t.Errorf("Size(%s) = %d, want %d", brief(x), got, size)
	}
	wantAccess(t, x, text)
	stands := places(text)
	for _, c := range symbols(text) {
		wantRank(t, x, c, text)
		wantSelect(t, x, c, stands[c])
	}
	if told(x) != before {
		t.Errorf("%s was changed to %s", before, brief(x))
	}
}

// wantText checks that x is taken for the text.
func wantText(t *testing.T, x api.Boost, text []byte) {
	t.Helper()
	if !boost.Check(x) {
		t.Fatalf("Check(%s) = false", brief(x))
	}
	if got := boost.Text(x); !bytes.Equal(got, text) {
		t.Fatalf("Text(%s) = %s, want %s", brief(x), short(got), short(text))
	}
}

func wantAccess(t *testing.T, x api.Boost, text []byte) {
	t.Helper()
	n := len(text)
	for _, i := range append(atBlocks(x.Log, n), asked(n)...) {
		if i == n {
			continue
		}
		if c, e := boost.Access(x, i); c != text[i] || e != api.OK {
			t.Fatalf("Access(%s, %d) = %d, %d, want %d", brief(x), i, c, e, text[i])
		}
	}
	for _, i := range []int{math.MinInt, -1, n, n + 1, math.MaxInt} {
		if c, e := boost.Access(x, i); c != 0 || e != api.ErrRange {
			t.Errorf("Access(%s, %d) = %d, %d, want ErrRange", brief(x), i, c, e)
		}
	}
}

func wantRank(t *testing.T, x api.Boost, c byte, text []byte) {
	t.Helper()
	n := len(text)
	for _, i := range atBlocks(x.Log, n) {
		want := bytes.Count(text[:i], []byte{c})
		if got, e := boost.Rank(x, c, i); got != want || e != api.OK {
			t.Fatalf("Rank(%s, %d, %d) = %d, %d, want %d", brief(x), c, i, got, e, want)
		}
	}
	for _, i := range []int{math.MinInt, -1, n + 1, math.MaxInt} {
		if got, e := boost.Rank(x, c, i); got != 0 || e != api.ErrRange {
			t.Errorf("Rank(%s, %d, %d) = %d, %d, want ErrRange", brief(x), c, i, got, e)
		}
	}
}

// wantSelect checks Select against all places where c stands.
func wantSelect(t *testing.T, x api.Boost, c byte, want []int) {
	t.Helper()
	for _, k := range asked(len(want)) {
		if at, e := boost.Select(x, c, k); at != want[k] || e != api.OK {
			t.Fatalf("Select(%s, %d, %d) = %d, %d, want %d", brief(x), c, k, at, e, want[k])
		}
	}
	for _, k := range []int{math.MinInt, -1, len(want), len(want) + 1, math.MaxInt} {
		if at, e := boost.Select(x, c, k); at != 0 || e != api.ErrRange {
			t.Errorf("Select(%s, %d, %d) = %d, %d, want ErrRange", brief(x), c, k, at, e)
		}
	}
}

// wantRefused checks that x is taken for a value that may not be: ErrArg, whatever else is wrong, and zeros.
func wantRefused(t *testing.T, x api.Boost) {
	t.Helper()
	before := told(x)
	if boost.Check(x) {
		t.Errorf("Check(%s) = true", brief(x))
	}
	if text := boost.Text(x); len(text) != 0 {
		t.Errorf("Text(%s) = %s", brief(x), short(text))
	}
	if n := boost.Size(x); n != 0 {
		t.Errorf("Size(%s) = %d", brief(x), n)
	}
	for _, i := range []int{math.MinInt, -1, 0, x.N, math.MaxInt} {
		if c, e := boost.Access(x, i); c != 0 || e != api.ErrArg {
			t.Errorf("Access(%s, %d) = %d, %d", brief(x), i, c, e)
		}
		if n, e := boost.Rank(x, 'a', i); n != 0 || e != api.ErrArg {
			t.Errorf("Rank(%s, a, %d) = %d, %d", brief(x), i, n, e)
		}
		if at, e := boost.Select(x, 'a', i); at != 0 || e != api.ErrArg {
			t.Errorf("Select(%s, a, %d) = %d, %d", brief(x), i, at, e)
		}
	}
	if told(x) != before {
		t.Errorf("%s was changed to %s", before, brief(x))
	}
}

// wantAsBuilt checks that x is taken, if it is just what Build is to answer of the text that its Parts tell; else that it is refused. It answers whether it is taken.
func wantAsBuilt(t *testing.T, x api.Boost) bool {
	t.Helper()
	var text []byte
	for _, part := range x.Parts {
		text = append(text, partText(part)...)
	}
	may := slices.Contains(shapes(), x.Inner) && slices.Contains(kinds(), x.Kind) && slices.Contains(logs(), x.Log) && len(text) <= longest
	if may && told(made(t, x.Inner, x.Kind, x.Log, text)) == told(x) {
		wantText(t, x, text)
		return true
	}
	wantRefused(t, x)
	return false
}

// wantPartAsBuilt checks that Right tells whether a Part is just what Make is to answer of the text that it tells. It answers whether it is.
func wantPartAsBuilt(t *testing.T, x api.Part) bool {
	t.Helper()
	kind := max(x.Tree.Kind, x.Shaped.Kind, x.Matrix.Kind)
	may := slices.Contains(shapes(), x.Shape) && slices.Contains(kinds(), kind)
	may = may && told(partMade(t, x.Shape, kind, partText(x))) == told(x)
	before := told(x)
	if got := boost.Right(x); got != may {
		t.Errorf("Right(%s) = %v", partBrief(x), got)
	}
	if told(x) != before {
		t.Errorf("Right changed %s", before)
	}
	return may
}

// What the document says in numbers is what api has.
func TestNumbers(t *testing.T) {
	if api.MaxText != longest || api.KindPlain != 1 || api.KindRrr != 2 || api.KindFano != 3 || api.ShapeTree != 1 || api.ShapeShaped != 2 || api.ShapeMatrix != 3 || api.ErrArg != 2 || api.ErrRange != 3 || api.ErrLong != 4 || api.ErrConfig != 5 {
		t.Error("a limit, a kind, a shape or an error has another number")
	}
}

// P15.1 Make and Right: what the shape's layer builds, and nothing in the other fields; it may be.
func TestMake(t *testing.T) {
	for _, text := range slices.Concat(texts(), longTexts()) {
		for _, shape := range shapes() {
			for _, kind := range kinds() {
				given := slices.Clone(text)
				x, e := boost.Make(shape, kind, given)
				if want := partMade(t, shape, kind, text); e != api.OK || told(x) != told(want) {
					t.Errorf("Make(%d, %d) of %s = %s, %d, want %s", shape, kind, short(text), partBrief(x), e, partBrief(want))
				}
				if !bytes.Equal(given, text) {
					t.Errorf("Make(%d, %d) changed %s", shape, kind, short(text))
				}
				if !boost.Right(x) || !bytes.Equal(partText(x), text) {
					t.Errorf("Make(%d, %d) of %s is not right", shape, kind, short(text))
				}
			}
		}
	}
}

// P15.1 Make: the fields of the other shapes are zero, each of them looked at.
func TestMakeOtherFields(t *testing.T) {
	for _, kind := range kinds() {
		for _, text := range [][]byte{nil, []byte("abracadabra")} {
			for _, shape := range shapes() {
				x := partBuilt(t, shape, kind, text)
				if x.Shape != shape {
					t.Errorf("Make(%d, %d) is of shape %d", shape, kind, x.Shape)
				}
				if shape != 1 && told(x.Tree) != told(api.Tree{}) || shape != 2 && told(x.Shaped) != told(api.Shaped{}) || shape != 3 && told(x.Matrix) != told(api.Matrix{}) {
					t.Errorf("Make(%d, %d) of %s has something in another field: %s", shape, kind, short(text), told(x))
				}
			}
		}
	}
}

// P15.1 Make: ErrConfig of a shape that no Part has, whatever the kind and the text.
func TestMakeOfNoShape(t *testing.T) {
	for _, text := range [][]byte{nil, {97}, []byte("abracadabra"), scattered(300), scattered(longest), scattered(longest + 1)} {
		for _, shape := range none() {
			for _, kind := range slices.Concat(kinds(), none()) {
				if x, e := boost.Make(shape, kind, text); e != api.ErrConfig || told(x) != told(api.Part{}) {
					t.Errorf("Make(%d, %d) of %s = %s, %d, want ErrConfig", shape, kind, short(text), partBrief(x), e)
				}
			}
		}
	}
}

// P15.1 Make: the layer's error, with nothing beside it: ErrLong comes ahead of ErrConfig of a kind there.
func TestMakeRefused(t *testing.T) {
	for _, shape := range shapes() {
		for _, kind := range none() {
			for _, text := range [][]byte{nil, {97}, scattered(300), alone(0, longest)} {
				if x, e := boost.Make(shape, kind, text); e != api.ErrConfig || told(x) != told(api.Part{}) {
					t.Errorf("Make(%d, %d) of %s = %s, %d, want ErrConfig", shape, kind, short(text), partBrief(x), e)
				}
			}
		}
		for _, kind := range slices.Concat(kinds(), none()) {
			for _, text := range tooLong() {
				if x, e := boost.Make(shape, kind, text); e != api.ErrLong || told(x) != told(api.Part{}) {
					t.Errorf("Make(%d, %d) of %s = %s, %d, want ErrLong", shape, kind, short(text), partBrief(x), e)
				}
			}
		}
	}
}

// P15.1 Right: a value that no call made, also with a shape, a kind, or lists of zeros.
func TestRightOfZeros(t *testing.T) {
	if boost.Right(api.Part{}) {
		t.Error("Right of a zero value")
	}
	for _, shape := range slices.Concat(shapes(), none()) {
		for _, kind := range slices.Concat(kinds(), none()) {
			for _, x := range []api.Part{
				{Shape: shape},
				{Shape: shape, Tree: api.Tree{Kind: kind}},
				{Shape: shape, Shaped: api.Shaped{Kind: kind}},
				{Shape: shape, Matrix: api.Matrix{Kind: kind}},
				{Shape: shape, Tree: api.Tree{Kind: kind, Levels: make([]api.Vector, 8)}},
				{Shape: shape, Matrix: api.Matrix{Kind: kind, Levels: make([]api.Vector, 8), Zeros: make([]int, 8)}},
			} {
				if boost.Right(x) {
					t.Errorf("Right(%s) = true", partBrief(x))
				}
			}
		}
	}
	// Shaped of no symbols has 256 lengths, and no rows.
	if !boost.Right(api.Part{Shape: 2, Shaped: api.Shaped{Kind: 1, Lens: make([]int, 256)}}) {
		t.Error("no symbols along no codes are refused")
	}
}

// P15.1 Right: what is made, with another shape, whether that has the field or not.
func TestRightOfAnotherShape(t *testing.T) {
	for _, text := range texts() {
		for _, kind := range kinds() {
			for _, shape := range shapes() {
				x := partBuilt(t, shape, kind, text)
				for _, other := range slices.Concat(shapes(), none()) {
					y := partChanged(x, func(y *api.Part) { y.Shape = other })
					if got := boost.Right(y); got != (other == shape) {
						t.Errorf("Right of shape %d of %s told as %d = %v", shape, short(text), other, got)
					}
				}
			}
		}
	}
}

// filled are Parts of that shape but for something that is in the field of another one.
func filled(x api.Part, whole api.Part) []api.Part {
	var l []api.Part
	put := func(shape int, f func(y *api.Part)) {
		if shape != x.Shape {
			l = append(l, partChanged(x, f))
		}
	}
	for _, n := range []int{math.MinInt, -1, 1, 3, math.MaxInt} {
		put(1, func(y *api.Part) { y.Tree.Kind = n })
		put(1, func(y *api.Part) { y.Tree.N = n })
		put(2, func(y *api.Part) { y.Shaped.Kind = n })
		put(2, func(y *api.Part) { y.Shaped.N = n })
		put(3, func(y *api.Part) { y.Matrix.Kind = n })
		put(3, func(y *api.Part) { y.Matrix.N = n })
	}
	put(1, func(y *api.Part) { y.Tree.Levels = make([]api.Vector, 1) })
	put(2, func(y *api.Part) { y.Shaped.Lens = make([]int, 1) })
	put(2, func(y *api.Part) { y.Shaped.Lens = make([]int, 256) })
	put(2, func(y *api.Part) { y.Shaped.Nodes = make([]api.Vector, 1) })
	put(3, func(y *api.Part) { y.Matrix.Levels = make([]api.Vector, 1) })
	put(3, func(y *api.Part) { y.Matrix.Zeros = make([]int, 1) })
	put(1, func(y *api.Part) { y.Tree = whole.Tree })
	put(2, func(y *api.Part) { y.Shaped = whole.Shaped })
	put(3, func(y *api.Part) { y.Matrix = whole.Matrix })
	return l
}

// whole answers a Part with all fields of a text.
func whole(t *testing.T, kind int, text []byte) api.Part {
	t.Helper()
	return api.Part{Tree: partMade(t, 1, kind, text).Tree, Shaped: partMade(t, 2, kind, text).Shaped, Matrix: partMade(t, 3, kind, text).Matrix}
}

// P15.1 Right: something in a field that is another shape's.
func TestRightOfOtherFields(t *testing.T) {
	for _, text := range [][]byte{nil, {97}, []byte("abracadabra"), scattered(300)} {
		for _, kind := range kinds() {
			all := whole(t, kind, text)
			for _, shape := range slices.Concat(shapes(), none()) {
				if boost.Right(partChanged(all, func(y *api.Part) { y.Shape = shape })) {
					t.Errorf("with shape %d all three fields are taken", shape)
				}
			}
			for _, shape := range shapes() {
				for _, y := range filled(partBuilt(t, shape, kind, text), all) {
					if boost.Right(y) {
						t.Errorf("Right(%s) = true", partBrief(y))
					}
				}
			}
		}
	}
}

// damaged are Parts, made of one that is not of an empty text, of which one thing is another.
func damaged(x api.Part) []api.Part {
	var l []api.Part
	put := func(f func(y *api.Part)) { l = append(l, partChanged(x, f)) }
	for i := range wordsOf(&x) {
		put(func(y *api.Part) {
			if w := *wordsOf(y)[i]; len(w) > 0 {
				w[0] ^= 1
			}
		})
		put(func(y *api.Part) {
			if w := *wordsOf(y)[i]; len(w) > 0 {
				w[len(w)-1] ^= 1 << 63
			}
		})
		put(func(y *api.Part) { w := wordsOf(y)[i]; *w = append(*w, 0) })
	}
	for i := range numbersOf(&x) {
		put(func(y *api.Part) {
			if n := *numbersOf(y)[i]; len(n) > 0 {
				n[len(n)-1]++
			}
		})
		put(func(y *api.Part) { n := numbersOf(y)[i]; *n = append(*n, 0) })
	}
	for i := range vectorsOf(&x) {
		put(func(y *api.Part) {
			if rows := vectorsOf(y)[i]; len(*rows) > 0 {
				*rows = (*rows)[1:]
			}
		})
		put(func(y *api.Part) { rows := vectorsOf(y)[i]; *rows = append(*rows, api.Vector{}) })
	}
	for _, n := range []int{math.MinInt, -1, 1, 2, math.MaxInt} {
		put(func(y *api.Part) { y.Tree.N += n })
		put(func(y *api.Part) { y.Shaped.N += n })
		put(func(y *api.Part) { y.Matrix.N += n })
		put(func(y *api.Part) { y.Tree.Kind += n })
		put(func(y *api.Part) { y.Shaped.Kind += n })
		put(func(y *api.Part) { y.Matrix.Kind += n })
	}
	return l
}

// P15.1 Right: what its own layer refuses, or takes for another text.
func TestRightOfDamaged(t *testing.T) {
	t.Parallel()
	taken, refused := 0, 0
	for _, text := range [][]byte{{97}, []byte("abracadabra"), few(40), scattered(17)} {
		for _, shape := range shapes() {
			for _, kind := range kinds() {
				for _, y := range damaged(partBuilt(t, shape, kind, text)) {
					if wantPartAsBuilt(t, y) {
						taken++
					} else {
						refused++
					}
				}
			}
		}
	}
	if taken < 100 || refused < 1000 {
		t.Errorf("%d Parts are taken, %d are refused: both should be many", taken, refused)
	}
}

// P15.2 Build, P15.4: each Part and each of Ahead as the chapter's words have it, at each log; what is built may be, and its text is the text.
func TestBuild(t *testing.T) {
	t.Parallel()
	for _, text := range texts() {
		for _, log := range logs() {
			for _, inner := range shapes() {
				for _, kind := range kinds() {
					wantBuilt(t, inner, kind, log, text)
				}
			}
		}
	}
}

// wantBuilt checks Build of a text, and that it may be.
func wantBuilt(t *testing.T, inner int, kind int, log int, text []byte) {
	t.Helper()
	given := slices.Clone(text)
	x, e := boost.Build(inner, kind, log, given)
	if want := made(t, inner, kind, log, text); e != api.OK || told(x) != told(want) {
		t.Errorf("Build(%d, %d, %d) of %s = %s, %d, want %s", inner, kind, log, short(text), brief(x), e, brief(want))
	}
	if !bytes.Equal(given, text) {
		t.Errorf("Build(%d, %d, %d) changed %s", inner, kind, log, short(text))
	}
	wantText(t, x, text)
}

// P15.2 Build, P15.4: the longest text that is.
func TestBuildOfLongest(t *testing.T) {
	t.Parallel()
	for i, text := range longTexts() {
		for _, inner := range shapes() {
			for _, kind := range kinds() {
				for _, log := range []int{4, 5 + (i+inner+kind)%7, 12} {
					wantBuilt(t, inner, kind, log, text)
				}
			}
		}
	}
}

// P15.2 Build: how many Parts and how many of Ahead there are, written out.
func TestHowManyParts(t *testing.T) {
	for _, c := range []struct{ n, log, parts, last int }{
		{0, 4, 0, 0}, {0, 12, 0, 0}, {1, 4, 1, 1}, {15, 4, 1, 15}, {16, 4, 1, 16}, {17, 4, 2, 1}, {40, 4, 3, 8}, {31, 5, 1, 31}, {33, 5, 2, 1},
		{255, 8, 1, 255}, {256, 8, 1, 256}, {257, 8, 2, 1}, {300, 8, 2, 44}, {300, 12, 1, 300}, {257, 4, 17, 1},
		{longest, 4, 512, 16}, {longest, 12, 2, 4096}, {longest - 1, 12, 2, 4095}, {4097, 12, 2, 1}, {4096, 12, 1, 4096},
	} {
		for _, inner := range shapes() {
			x := built(t, inner, 1, c.log, scattered(c.n))
			if len(x.Parts) != c.parts || len(x.Ahead) != 256*c.parts || x.N != c.n || x.Log != c.log || x.Inner != inner || x.Kind != 1 {
				t.Errorf("Build(%d, 1, %d) of %d bytes has %d Parts, %d of Ahead, inner %d, kind %d, log %d, N %d", inner, c.log, c.n, len(x.Parts), len(x.Ahead), x.Inner, x.Kind, x.Log, x.N)
			}
			if c.parts > 0 && len(partText(x.Parts[c.parts-1])) != c.last {
				t.Errorf("the last Part of Build(%d, 1, %d) of %d bytes has not %d symbols", inner, c.log, c.n, c.last)
			}
		}
	}
}

// P15.2 Build: Ahead of a text, written out.
func TestAheadWrittenOut(t *testing.T) {
	x := built(t, 1, 1, 4, []byte("abracadabra, abracadabra, abracadabra")) // abracadabra, abr | acadabra, abraca | dabra
	for _, c := range []struct {
		symbol byte
		want   [3]int
	}{
		{'a', [3]int{0, 6, 6 + 7}}, {'b', [3]int{0, 3, 3 + 2}}, {'c', [3]int{0, 1, 1 + 2}}, {'d', [3]int{0, 1, 1 + 1}}, {'r', [3]int{0, 3, 3 + 2}},
		{',', [3]int{0, 1, 2}}, {' ', [3]int{0, 1, 2}}, {0, [3]int{}}, {'e', [3]int{}}, {255, [3]int{}},
	} {
		for b, want := range c.want {
			if got := x.Ahead[256*b+int(c.symbol)]; got != want {
				t.Errorf("%d symbols %q are ahead of block %d, want %d", got, c.symbol, b, want)
			}
		}
	}
}

// P15.2 Build: ErrConfig of an inner shape, a log or a kind that there is not, one alone or together, whatever the text: also ahead of ErrLong, and where there is no Part.
func TestBuildRefused(t *testing.T) {
	some := []int{math.MinInt, -1, 0, 4, math.MaxInt} // of these each is no log but 4
	for _, text := range [][]byte{nil, {}, {97}, scattered(300), scattered(longest), scattered(longest + 1), rising(1 << 16)} {
		want := func(inner int, kind int, log int) {
			given := slices.Clone(text)
			if x, e := boost.Build(inner, kind, log, given); e != api.ErrConfig || told(x) != told(api.Boost{}) {
				t.Errorf("Build(%d, %d, %d) of %s = %s, %d, want ErrConfig", inner, kind, log, short(text), brief(x), e)
			}
			if !bytes.Equal(given, text) {
				t.Errorf("Build(%d, %d, %d) changed %s", inner, kind, log, short(text))
			}
		}
		for _, right := range shapes() {
			for _, wrong := range none() {
				want(wrong, right, 4)
				want(wrong, right, 12)
				want(right, wrong, 4)
				want(right, wrong, 12)
				want(wrong, wrong, 8)
			}
			for _, log := range noLogs() {
				for _, kind := range kinds() {
					want(right, kind, log)
				}
				for _, wrong := range some {
					want(wrong, right, log)
					want(right, wrong, log)
					want(wrong, wrong, log)
				}
			}
		}
	}
}

// P15.2 Build: ErrLong of a text that is too long, if nothing else is wrong.
func TestBuildOfTooLong(t *testing.T) {
	for _, text := range tooLong() {
		for _, inner := range shapes() {
			for _, kind := range kinds() {
				for _, log := range logs() {
					if x, e := boost.Build(inner, kind, log, text); e != api.ErrLong || told(x) != told(api.Boost{}) {
						t.Errorf("Build(%d, %d, %d) of %s = %s, %d, want ErrLong", inner, kind, log, short(text), brief(x), e)
					}
				}
			}
		}
	}
}

// P15.2 and P15.3: all that is asked of what is built is told by the text.
func TestAnswers(t *testing.T) {
	t.Parallel()
	for i, text := range texts() {
		for _, inner := range shapes() {
			for _, kind := range kinds() {
				for _, log := range []int{4, 5 + (i+inner+kind)%8} {
					wantTaken(t, built(t, inner, kind, log, text), text)
				}
			}
		}
	}
	wantTaken(t, made(t, 2, 3, 4, few(40)), few(40))
}

// P15.3: of the longest text that is, at the ends and within.
func TestAnswersOfLongest(t *testing.T) {
	t.Parallel()
	for _, c := range []struct {
		inner, kind, log int
		text             []byte
	}{
		{1, 1, 4, apart(longest)}, {1, 2, 12, scattered(longest)}, {1, 3, 8, few(longest)}, {2, 1, 12, apart(longest)}, {3, 1, 6, alone(255, longest)}, {3, 3, 12, few(longest)},
	} {
		wantTaken(t, built(t, c.inner, c.kind, c.log, c.text), c.text)
	}
}

// P15.3: all places and counts of all symbols, and those past the ends.
func TestAllAsked(t *testing.T) {
	t.Parallel()
	for _, c := range []struct {
		log  int
		text []byte
	}{
		{4, []byte("abracadabra, abracadabra, abracadabra")}, {4, few(64)}, {4, scattered(70)}, {5, apart(130)}, {4, alone(9, 33)},
	} {
		stands := places(c.text)
		for _, inner := range shapes() {
			for _, kind := range kinds() {
				x := built(t, inner, kind, c.log, c.text)
				for symbol := range 256 {
					for k, want := range stands[symbol] {
						if at, e := boost.Select(x, byte(symbol), k); at != want || e != api.OK {
							t.Fatalf("Select(%s, %d, %d) = %d, %d, want %d", brief(x), symbol, k, at, e, want)
						}
					}
					wantSelect(t, x, byte(symbol), stands[symbol])
				}
				for i := range len(c.text) + 1 {
					symbols := append(slices.Clone(c.text[:min(i+1, len(c.text))]), 0, 1, 254, 255)
					slices.Sort(symbols)
					for _, symbol := range slices.Compact(symbols) {
						want := bytes.Count(c.text[:i], []byte{symbol})
						if got, e := boost.Rank(x, symbol, i); got != want || e != api.OK {
							t.Fatalf("Rank(%s, %d, %d) = %d, %d, want %d", brief(x), symbol, i, got, e, want)
						}
					}
				}
				for i, want := range c.text {
					if got, e := boost.Access(x, i); got != want || e != api.OK {
						t.Fatalf("Access(%s, %d) = %d, %d, want %d", brief(x), i, got, e, want)
					}
				}
			}
		}
	}
}

// P15.3: symbols and places far from every text.
func TestFarAsked(t *testing.T) {
	for _, text := range [][]byte{nil, {97}, []byte("abracadabra"), few(48)} {
		for _, inner := range shapes() {
			x := built(t, inner, 2, 4, text)
			for _, i := range append(far(), len(text)+1) {
				c, e := boost.Access(x, i)
				n, f := boost.Rank(x, 'a', i)
				at, g := boost.Select(x, 'a', i)
				if c != 0 || n != 0 || at != 0 || e != api.ErrRange || f != api.ErrRange || g != api.ErrRange {
					t.Errorf("of %s at %d: Access %d, %d, Rank %d, %d, Select %d, %d", brief(x), i, c, e, n, f, at, g)
				}
			}
		}
	}
}

// P15.3 Select: symbols that are missing in many blocks, ahead of, between and behind those that have them.
func TestSelectOverBlocks(t *testing.T) {
	for _, stands := range [][]int{{0}, {15}, {16}, {159}, {0, 159}, {47, 48}, {15, 16, 17}, {80}, {80, 81, 95, 96}, {0, 1, 2, 150, 151}, {33, 66, 99, 132}} {
		text := alone(7, 160)
		for _, i := range stands {
			text[i] = 99
		}
		for _, inner := range shapes() {
			wantSelect(t, built(t, inner, 1, 4, text), 99, stands)
		}
	}
}

// P15.2 Size: some sums written out.
func TestSizes(t *testing.T) {
	for _, inner := range shapes() {
		for _, kind := range kinds() {
			for _, log := range logs() {
				if got := boost.Size(built(t, inner, kind, log, nil)); got != 0 {
					t.Errorf("Size(%d, %d, %d) of no text = %d", inner, kind, log, got)
				}
			}
		}
	}
	for _, c := range []struct {
		inner, kind, log int
		text             []byte
		want             int
	}{
		// Eight rows of one bit, with a number of Super and one of Sub; 256 of Ahead.
		{1, 1, 4, []byte{0}, 8*(1+32+16) + 256*16},
		// The same with eight of Zeros.
		{3, 1, 4, []byte{0}, 8*(1+32+16+32) + 256*16},
		// 256 lengths, one row.
		{2, 1, 4, []byte{0}, 256*6 + 1 + 32 + 16 + 256*16},
		// Three Parts of 16, 16 and 8 symbols.
		{1, 1, 4, rising(40), 8*(16+32+16)*2 + 8*(8+32+16) + 3*256*16},
		{3, 1, 4, rising(40), 8*(16+32+16+32)*2 + 8*(8+32+16+32) + 3*256*16},
		{2, 1, 4, alone(97, 40), 256*6*3 + 40 + 3*(32+16) + 3*256*16},
		{1, 1, 6, rising(40), 8*(40+32+16) + 256*16},
	} {
		if got := boost.Size(built(t, c.inner, c.kind, c.log, c.text)); got != c.want {
			t.Errorf("Size(%d, %d, %d) of %s = %d, want %d", c.inner, c.kind, c.log, short(c.text), got, c.want)
		}
	}
}

// P15.2 Check: a value that no call made, also with some fields of one that may be.
func TestZeroValues(t *testing.T) {
	wantRefused(t, api.Boost{})
	wantRefused(t, api.Boost{Inner: 1, Kind: 1})
	wantRefused(t, api.Boost{Inner: 1, Log: 4})
	wantRefused(t, api.Boost{Kind: 1, Log: 4})
	for _, count := range []int{1, 2, 512} {
		wantRefused(t, api.Boost{Parts: make([]api.Part, count)})
		wantRefused(t, api.Boost{Inner: 1, Kind: 1, Log: 4, Parts: make([]api.Part, count), Ahead: make([]int, 256*count)})
		wantRefused(t, api.Boost{Inner: 1, Kind: 1, Log: 4, N: 16 * count, Parts: make([]api.Part, count), Ahead: make([]int, 256*count)})
		wantRefused(t, api.Boost{Inner: 2, Kind: 1, Log: 4, N: 16 * count, Parts: slices.Repeat([]api.Part{{Shape: 2}}, count), Ahead: make([]int, 256*count)})
	}
	wantRefused(t, api.Boost{Inner: 1, Kind: 1, Log: 4, Parts: make([]api.Part, 1<<12), Ahead: make([]int, 1<<20)})
}

// P15.2 Check: the least that may be: an inner shape, a kind and a log that there are, and no text.
func TestOfNoText(t *testing.T) {
	for _, inner := range slices.Concat(shapes(), none()) {
		for _, kind := range slices.Concat(kinds(), none()) {
			for _, log := range slices.Concat(logs(), noLogs()) {
				may := slices.Contains(shapes(), inner) && slices.Contains(kinds(), kind) && slices.Contains(logs(), log)
				if got := boost.Check(api.Boost{Inner: inner, Kind: kind, Log: log}); got != may {
					t.Errorf("Check of inner %d, kind %d, log %d without a text = %v", inner, kind, log, got)
				}
			}
		}
	}
	for _, inner := range shapes() {
		for _, n := range far() {
			wantRefused(t, api.Boost{Inner: inner, Kind: 1, Log: 4, N: n})
		}
		empty := partBuilt(t, inner, 1, nil)
		wantRefused(t, api.Boost{Inner: inner, Kind: 1, Log: 4, Parts: []api.Part{empty}, Ahead: make([]int, 256)})
		wantRefused(t, api.Boost{Inner: inner, Kind: 1, Log: 4, Parts: []api.Part{empty}})
		wantRefused(t, api.Boost{Inner: inner, Kind: 1, Log: 4, Ahead: make([]int, 256)})
		wantRefused(t, api.Boost{Inner: inner, Kind: 1, Log: 4, Ahead: make([]int, 1)})
	}
}

// someTexts are those of which values are changed: of one block, of several, the last one of them whole or not.
func someTexts() [][]byte {
	return [][]byte{{97}, []byte("abracadabra"), few(16), scattered(17), few(40), rising(48)}
}

// P15.2 Check: Parts that are too few, or too many, whether Ahead goes with them or not, and N, too.
func TestPartsMissing(t *testing.T) {
	t.Parallel()
	for _, text := range someTexts() {
		for _, inner := range shapes() {
			for _, kind := range kinds() {
				x := built(t, inner, kind, 4, text)
				count := len(x.Parts)
				for n := range count {
					wantRefused(t, changed(x, func(y *api.Boost) { y.Parts = y.Parts[:n] })) // the room behind holds the others
					wantRefused(t, changed(x, func(y *api.Boost) { y.Parts = y.Parts[count-n:] }))
					wantRefused(t, changed(x, func(y *api.Boost) { y.Parts, y.Ahead = y.Parts[:n], y.Ahead[:256*n] }))
					if !wantAsBuilt(t, changed(x, func(y *api.Boost) { y.Parts, y.Ahead, y.N = y.Parts[:n], y.Ahead[:256*n], 16*n })) {
						t.Errorf("the first %d blocks of %s are not taken for their text", n, brief(x))
					}
				}
				wantRefused(t, changed(x, func(y *api.Boost) { y.Parts = nil }))
				wantRefused(t, changed(x, func(y *api.Boost) { y.Parts = append(y.Parts, api.Part{}) }))
				wantRefused(t, changed(x, func(y *api.Boost) { y.Parts = append(y.Parts, y.Parts[count-1]) }))
				wantRefused(t, changed(x, func(y *api.Boost) {
					y.Parts, y.Ahead = append(y.Parts, y.Parts[count-1]), append(y.Ahead, y.Ahead[256*count-256:]...)
				}))
				wantMore(t, x, text)
			}
		}
	}
}

// wantMore checks that a Part behind the last one is refused that is none, or that has no symbols, also where Ahead and N go with it.
func wantMore(t *testing.T, x api.Boost, text []byte) {
	t.Helper()
	behind := made(t, x.Inner, x.Kind, x.Log, append(slices.Clone(text), alone(0, 16)...)).Ahead // the counts go on
	behind = behind[:256*(len(x.Parts)+1)]
	for _, more := range []api.Part{{}, {Shape: x.Inner}, partMade(t, x.Inner, x.Kind, nil), partMade(t, x.Inner, x.Kind, alone(0, 17))} {
		for _, n := range []int{x.N, x.N + 1, x.N + 16, x.N + 17} {
			y := changed(x, func(y *api.Boost) { y.Parts, y.Ahead, y.N = append(y.Parts, more), slices.Clone(behind), n })
			if wantAsBuilt(t, y) {
				t.Errorf("%s is taken", brief(y))
			}
		}
	}
}

// P15.2 Check: one of Ahead too few, too many, or another.
func TestAheadAnother(t *testing.T) {
	t.Parallel()
	for _, text := range someTexts() {
		for _, inner := range shapes() {
			for _, kind := range kinds() {
				x := built(t, inner, kind, 4, text)
				last := len(x.Ahead) - 1
				for _, n := range []int{0, 1, 255, last - 255, last} {
					if n != last+1 {
						wantRefused(t, changed(x, func(y *api.Boost) { y.Ahead = y.Ahead[:n] })) // the room behind holds the others
					}
				}
				wantRefused(t, changed(x, func(y *api.Boost) { y.Ahead = y.Ahead[1:] }))
				wantRefused(t, changed(x, func(y *api.Boost) { y.Ahead = nil }))
				wantRefused(t, changed(x, func(y *api.Boost) { y.Ahead = append(y.Ahead, 0) }))
				wantRefused(t, changed(x, func(y *api.Boost) { y.Ahead = append(y.Ahead, y.Ahead[last-255:]...) }))
				for b := range x.Parts {
					for _, c := range []int{0, 'a', int(text[0]), int(text[len(text)-1]), 255} {
						at := 256*b + c
						for _, other := range []int{math.MinInt, -1, 0, x.Ahead[at] - 1, x.Ahead[at] + 1, 16, math.MaxInt} {
							if other != x.Ahead[at] {
								wantRefused(t, changed(x, func(y *api.Boost) { y.Ahead[at] = other }))
							}
						}
					}
				}
			}
		}
	}
}

// P15.2 Check: each one of Ahead, where it is another.
func TestEachOfAhead(t *testing.T) {
	for _, inner := range shapes() {
		x := built(t, inner, 1, 4, few(33))
		for at := range x.Ahead {
			if boost.Check(changed(x, func(y *api.Boost) { y.Ahead[at]++ })) || boost.Check(changed(x, func(y *api.Boost) { y.Ahead[at]-- })) {
				t.Errorf("of inner %d: Ahead is another at %d, and taken", inner, at)
			}
		}
	}
}

// P15.2 Check: two Parts exchanged, or one in place of another: refused, unless what is ahead of all is as it was.
func TestPartsExchanged(t *testing.T) {
	taken, refused := 0, 0
	count := func(y api.Boost) {
		if wantAsBuilt(t, y) {
			taken++
		} else {
			refused++
		}
	}
	half := []byte("abracadabra, abc")
	turned := slices.Clone(half)
	slices.Reverse(turned)
	for _, text := range [][]byte{few(40), scattered(48), alone(97, 48), slices.Concat(half, turned, []byte("ab")), slices.Concat(half, few(16), turned)} {
		for _, inner := range shapes() {
			for _, kind := range kinds() {
				x := built(t, inner, kind, 4, text)
				for a := range x.Parts {
					for b := range a {
						count(changed(x, func(y *api.Boost) { y.Parts[a], y.Parts[b] = y.Parts[b], y.Parts[a] }))
						count(changed(x, func(y *api.Boost) { y.Parts[a] = partClone(y.Parts[b]) }))
						count(changed(x, func(y *api.Boost) { y.Parts[b] = partClone(y.Parts[a]) }))
					}
				}
			}
		}
	}
	if taken < 50 || refused < 100 {
		t.Errorf("%d values are taken, %d are refused: both should be many", taken, refused)
	}
}

// P15.2 Check: a Part of other symbols, of which Ahead tells something else, but for the last one.
func TestPartOfOtherSymbols(t *testing.T) {
	for _, inner := range shapes() {
		for _, kind := range kinds() {
			text := few(40)
			x := built(t, inner, kind, 4, text)
			for b := range x.Parts {
				start, end := 16*b, min(16*b+16, 40)
				other := slices.Clone(text)
				other[start+3] ^= 64
				y := changed(x, func(y *api.Boost) { y.Parts[b] = partMade(t, inner, kind, other[start:end]) })
				if b == 2 {
					wantTaken(t, y, other)
				} else {
					wantRefused(t, y)
				}
			}
		}
	}
}

// P15.2 Check: a Part of another shape, kind or length, or none at all.
func TestPartAnother(t *testing.T) {
	t.Parallel()
	for _, text := range someTexts() {
		for _, inner := range shapes() {
			for _, kind := range kinds() {
				x := built(t, inner, kind, 4, text)
				for b := range x.Parts {
					block := text[16*b : min(16*b+16, len(text))]
					others := []api.Part{{}, {Shape: inner}, partMade(t, inner, kind, append(slices.Clone(block), 0)), partMade(t, inner, kind, block[1:]), partMade(t, inner, kind, block[:len(block)-1]), partMade(t, inner, kind, nil)}
					for _, other := range shapes() {
						if other != inner {
							others = append(others, partMade(t, other, kind, block), partChanged(x.Parts[b], func(y *api.Part) { y.Shape = other }))
						}
						if other != kind {
							others = append(others, partMade(t, inner, other, block))
						}
					}
					others = append(others, filled(x.Parts[b], whole(t, kind, block))...)
					for _, other := range others {
						wantRefused(t, changed(x, func(y *api.Boost) { y.Parts[b] = other }))
					}
				}
			}
		}
	}
}

// P15.2 Check: all Parts of another shape, or of another kind, than the value says.
func TestAllPartsAnother(t *testing.T) {
	for _, text := range someTexts() {
		for _, inner := range shapes() {
			for _, kind := range kinds() {
				x := built(t, inner, kind, 4, text)
				for _, other := range slices.Concat(shapes(), none()) {
					if other != inner {
						wantRefused(t, changed(x, func(y *api.Boost) { y.Inner = other }))
					}
					if other != kind {
						wantRefused(t, changed(x, func(y *api.Boost) { y.Kind = other }))
					}
				}
			}
		}
	}
}

// P15.2 Check: another log: of no text, but where all symbols stand in one block either way.
func TestLogAnother(t *testing.T) {
	taken := 0
	for _, text := range append(someTexts(), scattered(300)) {
		for _, inner := range shapes() {
			for _, log := range []int{4, 5, 8, 12} {
				x := built(t, inner, 1, log, text)
				for _, other := range slices.Concat(logs(), noLogs()) {
					y := changed(x, func(y *api.Boost) { y.Log = other })
					if wantAsBuilt(t, y) != (other == log || other >= 4 && other <= 12 && len(text) <= 1<<min(log, other)) {
						t.Errorf("%s told as of log %d", brief(x), other)
					} else if boost.Check(y) {
						taken++
					}
				}
			}
		}
	}
	if taken < 100 {
		t.Errorf("%d values are taken: they should be many", taken)
	}
}

// P15.2 Check: another N.
func TestLengthAnother(t *testing.T) {
	t.Parallel()
	for _, text := range append(someTexts(), scattered(longest)) {
		n := len(text)
		for _, inner := range shapes() {
			for _, log := range []int{4, 12} {
				x := built(t, inner, 1, log, text)
				for _, other := range append(far(), 0, n-1, n+1, n-16, n+16, 16, 48, 2*n, -n) {
					if other != n {
						wantRefused(t, changed(x, func(y *api.Boost) { y.N = other }))
					}
				}
			}
		}
	}
}

// P15.2 Check: a value that is longer than a text is, though each Part may be.
func TestLongerThanAText(t *testing.T) {
	for _, inner := range shapes() {
		for _, log := range []int{4, 8, 12} {
			for _, n := range []int{longest + 1, longest + 1<<log, 2 * longest} {
				if wantAsBuilt(t, made(t, inner, 1, log, few(n))) {
					t.Errorf("%d symbols of inner %d are taken", n, inner)
				}
			}
		}
	}
}

// P15.2 Check: one thing of one Part is another: refused, unless it is Build of another text.
func TestPartDamaged(t *testing.T) {
	t.Parallel()
	taken, refused := 0, 0
	for _, text := range [][]byte{{97}, few(20), scattered(33)} {
		for _, inner := range shapes() {
			for _, kind := range kinds() {
				x := built(t, inner, kind, 4, text)
				for b := range x.Parts {
					for _, part := range damaged(x.Parts[b]) {
						if wantAsBuilt(t, changed(x, func(y *api.Boost) { y.Parts[b] = part })) {
							taken++
						} else {
							refused++
						}
					}
				}
			}
		}
	}
	if taken < 100 || refused < 1000 {
		t.Errorf("%d values are taken, %d are refused: both should be many", taken, refused)
	}
}

// R3: nil and empty lists are the same; what room a list has behind its end is nobody's.
func TestEmptyLists(t *testing.T) {
	for _, inner := range shapes() {
		for _, kind := range kinds() {
			for _, text := range [][]byte{nil, []byte("abracadabra"), few(40)} {
				wantTaken(t, changed(built(t, inner, kind, 4, text), func(x *api.Boost) {
					x.Parts, x.Ahead = append(x.Parts, api.Part{Shape: 3})[:len(x.Parts)], append(x.Ahead, -1)[:len(x.Ahead)]
					for b := range x.Parts {
						x.Parts[b] = roomy(x.Parts[b])
					}
				}), text)
				if !boost.Right(roomy(partBuilt(t, inner, kind, text))) {
					t.Errorf("of inner %d, kind %d: empty lists are taken for others than nil", inner, kind)
				}
			}
			if a, b := built(t, inner, kind, 4, nil), built(t, inner, kind, 4, []byte{}); told(a) != told(b) {
				t.Errorf("Build(%d, %d, 4) of nil is %s, of an empty text %s", inner, kind, told(a), told(b))
			}
		}
	}
}

// roomy answers a Part whose lists are not nil and have room behind, the empty ones, too.
func roomy(x api.Part) api.Part {
	return partChanged(x, func(y *api.Part) {
		for _, w := range wordsOf(y) {
			*w = append(append(make([]uint64, 0, 2), *w...), 1)[:len(*w)]
		}
		for _, n := range numbersOf(y) {
			*n = append(append(make([]int, 0, 2), *n...), 1)[:len(*n)]
		}
		for _, rows := range vectorsOf(y) {
			*rows = append(append(make([]api.Vector, 0, 2), *rows...), api.Vector{Kind: 1})[:len(*rows)]
		}
	})
}

// R3: what is built shares nothing with the text, nor with what stands behind its end.
func TestTextGiven(t *testing.T) {
	for _, inner := range shapes() {
		for _, kind := range kinds() {
			for _, n := range []int{0, 1, 16, 47, 64} {
				room := scattered(80)
				x, part := built(t, inner, kind, 4, room[:n]), partBuilt(t, inner, kind, room[:n])
				if !bytes.Equal(room, scattered(80)) {
					t.Errorf("of inner %d, kind %d: the text of %d bytes was changed, or what is behind", inner, kind, n)
				}
				want, partWant := told(x), told(part)
				clear(room)
				if told(x) != want || told(part) != partWant {
					t.Errorf("of inner %d, kind %d: what is built of %d bytes shares memory with its text", inner, kind, n)
				}
			}
		}
	}
}

// R3: the lists of what is built share nothing with one another, nor with those of another value.
func TestListsApart(t *testing.T) {
	for _, inner := range shapes() {
		for _, kind := range kinds() {
			for _, text := range [][]byte{[]byte("abracadabra"), alone(97, 48), scattered(40)} {
				x, other := built(t, inner, kind, 4, text), built(t, inner, kind, 4, text)
				want := told(other)
				mark(x)
				if !marked(x) {
					t.Errorf("lists of Build(%d, %d, 4) of %s share memory", inner, kind, short(text))
				}
				if told(other) != want {
					t.Errorf("two values of inner %d, kind %d of one text share memory", inner, kind)
				}
			}
		}
	}
}

// listsOf answers all lists of words and of numbers of x.
func listsOf(x api.Boost) ([][]uint64, [][]int) {
	words, numbers := [][]uint64(nil), [][]int{x.Ahead}
	for b := range x.Parts {
		for _, w := range wordsOf(&x.Parts[b]) {
			words = append(words, *w)
		}
		for _, n := range numbersOf(&x.Parts[b]) {
			numbers = append(numbers, *n)
		}
	}
	return words, numbers
}

// mark puts a number of its own all over each list of x, and over the room behind it.
func mark(x api.Boost) {
	words, numbers := listsOf(x)
	for i, w := range words {
		for j := range w[:cap(w)] {
			w[:cap(w)][j] = uint64(i)
		}
	}
	for i, n := range numbers {
		for j := range n[:cap(n)] {
			n[:cap(n)][j] = i
		}
	}
}

// marked tells whether each list of x has its own number still.
func marked(x api.Boost) bool {
	words, numbers := listsOf(x)
	for i, w := range words {
		if slices.ContainsFunc(w, func(v uint64) bool { return v != uint64(i) }) {
			return false
		}
	}
	for i, n := range numbers {
		if slices.ContainsFunc(n, func(v int) bool { return v != i }) {
			return false
		}
	}
	return true
}

// R3: the text that is answered is the caller's own.
func TestTextAnswered(t *testing.T) {
	for _, inner := range shapes() {
		for _, kind := range kinds() {
			for _, text := range [][]byte{[]byte("abracadabra"), scattered(40)} {
				x := built(t, inner, kind, 4, text)
				want := told(x)
				first, second := boost.Text(x), boost.Text(x)
				for i := range first {
					first[i] ^= 255
				}
				if !bytes.Equal(second, text) || !bytes.Equal(boost.Text(x), text) || told(x) != want {
					t.Errorf("Text of inner %d, kind %d shares memory", inner, kind)
				}
			}
		}
	}
}

// R8: the same call answers the same.
func TestAgain(t *testing.T) {
	text := scattered(300)
	for _, inner := range shapes() {
		for _, kind := range kinds() {
			want, partWant := told(built(t, inner, kind, 6, text)), told(partBuilt(t, inner, kind, text))
			for range 10 {
				if x := built(t, inner, kind, 6, text); told(x) != want || !bytes.Equal(boost.Text(x), text) {
					t.Fatalf("Build(%d, %d, 6) is another one", inner, kind)
				}
				if told(partBuilt(t, inner, kind, text)) != partWant {
					t.Fatalf("Make(%d, %d) is another one", inner, kind)
				}
			}
		}
	}
}

// The rows of a Part are of its kind: those that layer 10 knows of.
func TestRowsOfKind(t *testing.T) {
	for _, inner := range shapes() {
		for _, kind := range kinds() {
			for _, part := range built(t, inner, kind, 4, few(40)).Parts {
				for _, row := range rowsOf(&part) {
					if row.Kind != kind || !vector.Check(*row) {
						t.Errorf("a row of a Part of inner %d, kind %d is of kind %d", inner, kind, row.Kind)
					}
				}
			}
		}
	}
}

// The chapter's example.
func TestExample(t *testing.T) {
	for _, inner := range shapes() {
		for _, kind := range kinds() {
			for _, text := range [][]byte{rising(40), alone(97, 40), scattered(40)} {
				if x := built(t, inner, kind, 4, text); len(x.Parts) != 3 {
					t.Errorf("Build(%d, %d, 4) of 40 symbols has %d Parts", inner, kind, len(x.Parts))
				}
			}
		}
	}
}
