package seq_test

import (
	"bytes"
	"fmt"
	"math"
	"slices"
	"testing"

	"haystack/api"
	"haystack/boost"
	"haystack/matrix"
	"haystack/seq"
	"haystack/shaped"
	"haystack/tree"
)

const longest = 1 << 13 // MaxText, written out as the document does

// way is all that Build is given but the text.
type way struct{ shape, inner, kind, log int }

// ways are those that there are: each shape with each kind, blocks of each inner shape and each log.
func ways() []way {
	var l []way
	for kind := 1; kind <= 3; kind++ {
		for shape := 1; shape <= 3; shape++ {
			l = append(l, way{shape, 0, kind, 0})
		}
		for inner := 1; inner <= 3; inner++ {
			for log := 4; log <= 12; log++ {
				l = append(l, way{4, inner, kind, log})
			}
		}
	}
	return l
}

// someWays are those without blocks, and with the shortest ones.
func someWays() []way {
	return slices.DeleteFunc(ways(), func(w way) bool { return w.log > 4 })
}

// none are numbers that are no shape, no kind and no inner shape; those that are a log are left out.
func none() []int {
	return []int{math.MinInt, math.MinInt + 1, -1 << 32, -4, -3, -2, -1, 0, 13, 255, 256, 257, 1<<32 + 1, 1<<32 + 4, math.MaxInt - 1, math.MaxInt}
}

// noLogs are numbers that are the log of no block.
func noLogs() []int {
	return append(none(), 1, 2, 3, 14, 64, 68)
}

// scattered answers n symbols of a fixed row that has all of them.
func scattered(n int) []byte {
	text := make([]byte, n)
	x := uint64(88172645463325252)
	for i := range text {
		x ^= x << 13
		x ^= x >> 7
		x ^= x << 17
		text[i] = byte(x >> 40)
	}
	return text
}

// few answers n symbols of a fixed row that has few of them, some far more often than others.
func few(n int) []byte {
	text := scattered(n)
	for i, c := range text {
		text[i] = "aaaaaaaabbbbccd\x00"[c%16]
	}
	return text
}

// rising answers n symbols, each of them the one that comes behind the one ahead; 0 comes behind 255.
func rising(n int) []byte {
	text := make([]byte, n)
	for i := range text {
		text[i] = byte(i)
	}
	return text
}

// alone answers n times one symbol.
func alone(c byte, n int) []byte {
	return bytes.Repeat([]byte{c}, n)
}

// texts are the short texts.
func texts() [][]byte {
	return [][]byte{nil, {0}, {255}, {97}, []byte("abracadabra"), few(16), scattered(17), rising(40), few(40), alone(113, 256), scattered(300), rising(257), few(300)}
}

// longTexts are texts of as many bytes as a text has at most.
func longTexts() [][]byte {
	return [][]byte{scattered(longest), few(longest), alone(255, longest)}
}

// tooLong are texts that are longer than a text is.
func tooLong() [][]byte {
	return [][]byte{scattered(longest + 1), alone(0, longest+1), rising(2 * longest)}
}

// far are places and counts far from every text.
func far() []int {
	return []int{math.MinInt, math.MinInt + 1, math.MinInt32, -longest, -2, -1, longest + 1, 1 << 20, math.MaxInt32, 1 << 32, math.MaxInt - longest, math.MaxInt - 1, math.MaxInt}
}

// made answers the value of a text by the chapter's words, without the package that is tested: the shape, what its layer builds, and nothing else.
func made(t *testing.T, w way, text []byte) api.Seq {
	t.Helper()
	x, e := api.Seq{Shape: w.shape}, api.ErrConfig
	switch w.shape {
	case 1:
		x.Part.Shape = 1
		x.Part.Tree, e = tree.Build(w.kind, text)
	case 2:
		x.Part.Shape = 2
		x.Part.Shaped, e = shaped.Build(w.kind, text)
	case 3:
		x.Part.Shape = 3
		x.Part.Matrix, e = matrix.Build(w.kind, text)
	case 4:
		x.Boost, e = boost.Build(w.inner, w.kind, w.log, text)
	}
	if e != api.OK {
		t.Fatalf("the layer of %v refuses %s: %d", w, short(text), e)
	}
	return x
}

// built answers Build of a text.
func built(t *testing.T, w way, text []byte) api.Seq {
	t.Helper()
	x, e := build(w, text)
	if e != api.OK {
		t.Fatalf("Build %v of %s: %d", w, short(text), e)
	}
	return x
}

// build calls Build.
func build(w way, text []byte) (api.Seq, api.Errno) {
	return seq.Build(w.shape, w.inner, w.kind, w.log, text)
}

// told tells all of a value: two of one type that are told alike are alike; nil and empty lists are.
func told[T any](x T) string {
	return fmt.Sprintf("%v", x)
}

// short tells a text in few words.
func short(text []byte) string {
	return fmt.Sprintf("%d bytes %q..", len(text), text[:min(12, len(text))])
}

// brief tells a value in few words.
func brief(x api.Seq) string {
	part, blocks := told(x.Part), told(x.Boost)
	return fmt.Sprintf("{shape %d, Part %s.., Boost %s..}", x.Shape, part[:min(150, len(part))], blocks[:min(150, len(blocks))])
}

// partsOf answers all Parts that x has.
func partsOf(x *api.Seq) []*api.Part {
	l := []*api.Part{&x.Part}
	for b := range x.Boost.Parts {
		l = append(l, &x.Boost.Parts[b])
	}
	return l
}

// vectorsOf answers the lists of rows that x has.
func vectorsOf(x *api.Seq) []*[]api.Vector {
	var l []*[]api.Vector
	for _, part := range partsOf(x) {
		l = append(l, &part.Tree.Levels, &part.Shaped.Nodes, &part.Matrix.Levels)
	}
	return l
}

// rowsOf answers all rows that x has.
func rowsOf(x *api.Seq) []*api.Vector {
	var l []*api.Vector
	for _, rows := range vectorsOf(x) {
		for i := range *rows {
			l = append(l, &(*rows)[i])
		}
	}
	return l
}

// wordsOf answers the lists of words that x has.
func wordsOf(x *api.Seq) []*[]uint64 {
	var l []*[]uint64
	for _, row := range rowsOf(x) {
		l = append(l, &row.Plain.Bits.W, &row.Rrr.Class.Bits.W, &row.Rrr.Off.W, &row.Fano.Low.Bits.W, &row.Fano.High.W)
	}
	return l
}

// numbersOf answers the lists of numbers that x has.
func numbersOf(x *api.Seq) []*[]int {
	l := []*[]int{&x.Boost.Ahead}
	for _, part := range partsOf(x) {
		l = append(l, &part.Shaped.Lens, &part.Matrix.Zeros)
	}
	for _, row := range rowsOf(x) {
		l = append(l, &row.Plain.Super, &row.Plain.Sub, &row.Rrr.Ones, &row.Rrr.Points)
	}
	return l
}

// changed answers x with something changed by f, in lists of their own.
func changed(x api.Seq, f func(x *api.Seq)) api.Seq {
	x.Boost.Parts = slices.Clone(x.Boost.Parts)
	for _, rows := range vectorsOf(&x) {
		*rows = slices.Clone(*rows)
	}
	for _, w := range wordsOf(&x) {
		*w = slices.Clone(*w)
	}
	for _, n := range numbersOf(&x) {
		*n = slices.Clone(*n)
	}
	f(&x)
	return x
}

// places answers where each symbol stands in a text.
func places(text []byte) [256][]int {
	var l [256][]int
	for i, c := range text {
		l[c] = append(l[c], i)
	}
	return l
}

// asked are the places, or counts, at which n of them are asked: all of few; of many those at the ends and some others.
func asked(n int) []int {
	if n > 8 {
		return []int{0, 1, n / 3, n - 2, n - 1}
	}
	var l []int
	for i := range n {
		l = append(l, i)
	}
	return l
}

// symbols answers some of those that stand in a text, and some that do not.
func symbols(text []byte) []byte {
	l := []byte{0, 'a', 200}
	for _, i := range asked(len(text)) {
		for _, c := range []byte{text[i] - 1, text[i], text[i] + 1} {
			if !slices.Contains(l, c) {
				l = append(l, c)
			}
		}
	}
	return l[:min(len(l), 7)]
}

// size answers how many bits x needs by the layer of its shape.
func size(x api.Seq) int {
	switch x.Shape {
	case 1:
		return tree.Size(x.Part.Tree)
	case 2:
		return shaped.Size(x.Part.Shaped)
	case 3:
		return matrix.Size(x.Part.Matrix)
	}
	return boost.Size(x.Boost)
}

// textOf answers the text of x by the layer of its shape.
func textOf(x api.Seq) []byte {
	switch x.Shape {
	case 1:
		return tree.Text(x.Part.Tree)
	case 2:
		return shaped.Text(x.Part.Shaped)
	case 3:
		return matrix.Text(x.Part.Matrix)
	case 4:
		return boost.Text(x.Boost)
	}
	return nil
}

// wantText checks that x is taken for the text.
func wantText(t *testing.T, x api.Seq, text []byte) {
	t.Helper()
	if !seq.Check(x) {
		t.Fatalf("Check(%s) = false", brief(x))
	}
	if got := seq.Text(x); !bytes.Equal(got, text) {
		t.Fatalf("Text(%s) = %s, want %s", brief(x), short(got), short(text))
	}
	if got, want := seq.Size(x), size(x); got != want {
		t.Errorf("Size(%s) = %d, want %d", brief(x), got, want)
	}
}

// wantTaken checks that x is taken for the text, and that all answers are those of the text.
func wantTaken(t *testing.T, x api.Seq, text []byte) {
	t.Helper()
	before := told(x)
	wantText(t, x, text)
	wantAccess(t, x, text, asked(len(text)))
	stands := places(text)
	for _, c := range symbols(text) {
		wantRank(t, x, c, text, append(asked(len(text)), len(text)))
		wantSelect(t, x, c, stands[c], asked(len(stands[c])))
	}
	if told(x) != before {
		t.Errorf("%s was changed to %s", before, brief(x))
	}
}

func wantAccess(t *testing.T, x api.Seq, text []byte, at []int) {
	t.Helper()
	for _, i := range at {
		if c, e := seq.Access(x, i); c != text[i] || e != api.OK {
			t.Fatalf("Access(%s, %d) = %d, %d, want %d", brief(x), i, c, e, text[i])
		}
	}
	for _, i := range []int{math.MinInt, -1, len(text), len(text) + 1, math.MaxInt} {
		if c, e := seq.Access(x, i); c != 0 || e != api.ErrRange {
			t.Errorf("Access(%s, %d) = %d, %d, want ErrRange", brief(x), i, c, e)
		}
	}
}

func wantRank(t *testing.T, x api.Seq, c byte, text []byte, at []int) {
	t.Helper()
	for _, i := range at {
		want := bytes.Count(text[:i], []byte{c})
		if got, e := seq.Rank(x, c, i); got != want || e != api.OK {
			t.Fatalf("Rank(%s, %d, %d) = %d, %d, want %d", brief(x), c, i, got, e, want)
		}
	}
	for _, i := range []int{math.MinInt, -1, len(text) + 1, math.MaxInt} {
		if got, e := seq.Rank(x, c, i); got != 0 || e != api.ErrRange {
			t.Errorf("Rank(%s, %d, %d) = %d, %d, want ErrRange", brief(x), c, i, got, e)
		}
	}
}

// wantSelect checks Select, at some counts, against all places where c stands.
func wantSelect(t *testing.T, x api.Seq, c byte, want []int, at []int) {
	t.Helper()
	for _, k := range at {
		if place, e := seq.Select(x, c, k); place != want[k] || e != api.OK {
			t.Fatalf("Select(%s, %d, %d) = %d, %d, want %d", brief(x), c, k, place, e, want[k])
		}
	}
	for _, k := range []int{math.MinInt, -1, len(want), len(want) + 1, math.MaxInt} {
		if place, e := seq.Select(x, c, k); place != 0 || e != api.ErrRange {
			t.Errorf("Select(%s, %d, %d) = %d, %d, want ErrRange", brief(x), c, k, place, e)
		}
	}
}

// wantRefused checks that x is taken for a value that may not be: ErrArg, whatever else is wrong, and zeros.
func wantRefused(t *testing.T, x api.Seq) {
	t.Helper()
	before := told(x)
	if seq.Check(x) {
		t.Errorf("Check(%s) = true", brief(x))
	}
	if text := seq.Text(x); len(text) != 0 {
		t.Errorf("Text(%s) = %s", brief(x), short(text))
	}
	if n := seq.Size(x); n != 0 {
		t.Errorf("Size(%s) = %d", brief(x), n)
	}
	for _, i := range []int{math.MinInt, -1, 0, 1, math.MaxInt} {
		if c, e := seq.Access(x, i); c != 0 || e != api.ErrArg {
			t.Errorf("Access(%s, %d) = %d, %d", brief(x), i, c, e)
		}
		if n, e := seq.Rank(x, 'a', i); n != 0 || e != api.ErrArg {
			t.Errorf("Rank(%s, a, %d) = %d, %d", brief(x), i, n, e)
		}
		if at, e := seq.Select(x, 'a', i); at != 0 || e != api.ErrArg {
			t.Errorf("Select(%s, a, %d) = %d, %d", brief(x), i, at, e)
		}
	}
	if told(x) != before {
		t.Errorf("%s was changed to %s", before, brief(x))
	}
}

// wantAsBuilt checks that x is taken, if it is just what Build is to answer of the text that its shape's layer tells; else that it is refused. It answers whether it is taken.
func wantAsBuilt(t *testing.T, x api.Seq) bool {
	t.Helper()
	text := textOf(x)
	w := way{x.Shape, x.Boost.Inner, x.Boost.Kind + x.Part.Tree.Kind + x.Part.Shaped.Kind + x.Part.Matrix.Kind, x.Boost.Log}
	if slices.Contains(ways(), w) && told(made(t, w, text)) == told(x) {
		wantText(t, x, text)
		return true
	}
	wantRefused(t, x)
	return false
}

// What the document says in numbers is what api has.
func TestNumbers(t *testing.T) {
	if api.MaxText != longest || api.KindPlain != 1 || api.KindRrr != 2 || api.KindFano != 3 || api.ShapeTree != 1 || api.ShapeShaped != 2 || api.ShapeMatrix != 3 || api.ShapeBoost != 4 || api.ErrArg != 2 || api.ErrRange != 3 || api.ErrLong != 4 || api.ErrConfig != 5 {
		t.Error("a limit, a kind, a shape or an error has another number")
	}
}

// P16.1 Build: what the shape's layer builds, nothing in the other field; it may be, and its text is the text.
func TestBuild(t *testing.T) {
	t.Parallel()
	for _, text := range texts() {
		for _, w := range ways() {
			wantBuilt(t, w, text)
		}
	}
}

// wantBuilt checks Build of a text, and that it may be.
func wantBuilt(t *testing.T, w way, text []byte) {
	t.Helper()
	given := slices.Clone(text)
	x, e := build(w, given)
	if want := made(t, w, text); e != api.OK || told(x) != told(want) {
		t.Errorf("Build %v of %s = %s, %d, want %s", w, short(text), brief(x), e, brief(want))
	}
	if !bytes.Equal(given, text) {
		t.Errorf("Build %v changed %s", w, short(text))
	}
	wantText(t, x, text)
}

// P16.1 Build: the longest text that is.
func TestBuildOfLongest(t *testing.T) {
	t.Parallel()
	for i, text := range longTexts() {
		for j, w := range ways() {
			if w.shape < 4 || (i+j)%3 == 0 {
				wantBuilt(t, w, text)
			}
		}
	}
}

// P16.1 Build: Part is what layer 15 makes, Boost what it builds; the other one is zero.
func TestFields(t *testing.T) {
	for _, text := range [][]byte{nil, {97}, []byte("abracadabra"), few(300)} {
		for _, w := range ways() {
			x := built(t, w, text)
			part, blocks := api.Part{}, api.Boost{}
			if w.shape == 4 {
				blocks, _ = boost.Build(w.inner, w.kind, w.log, text)
			} else {
				part, _ = boost.Make(w.shape, w.kind, text)
			}
			if x.Shape != w.shape || told(x.Part) != told(part) || told(x.Boost) != told(blocks) {
				t.Errorf("Build %v of %s = %s", w, short(text), brief(x))
			}
		}
	}
}

// wantError checks that Build is refused, with nothing beside the error.
func wantError(t *testing.T, w way, text []byte, want api.Errno) {
	t.Helper()
	given := slices.Clone(text)
	if x, e := build(w, given); e != want || told(x) != told(api.Seq{}) {
		t.Errorf("Build %v of %s = %s, %d, want %d", w, short(text), brief(x), e, want)
	}
	if !bytes.Equal(given, text) {
		t.Errorf("Build %v changed %s", w, short(text))
	}
}

// given are texts for Build that refuses: also one that is too long.
func given() [][]byte {
	return [][]byte{nil, {}, {97}, scattered(300), alone(0, longest), scattered(longest + 1)}
}

// P16.1 Build: ErrConfig of a shape that there is not, whatever the others are.
func TestBuildOfNoShape(t *testing.T) {
	for _, text := range given() {
		for _, shape := range append(none(), 5, 6, 12) {
			for _, inner := range []int{0, 1, 3, 4, -1, math.MinInt, math.MaxInt} {
				for _, kind := range []int{0, 1, 2, 3, 4, -1, math.MinInt, math.MaxInt} {
					for _, log := range []int{0, 4, 12, 13, -1, math.MinInt, math.MaxInt} {
						wantError(t, way{shape, inner, kind, log}, text, api.ErrConfig)
					}
				}
			}
		}
	}
}

// P16.1 Build: of a shape without blocks an inner shape or a log that is not 0 is ErrConfig, also ahead of ErrLong, whatever the kind.
func TestBuildWithoutBlocks(t *testing.T) {
	for _, text := range append(given(), tooLong()...) {
		for shape := 1; shape <= 3; shape++ {
			for _, kind := range []int{1, 2, 3, 0, -1, 4, math.MinInt, math.MaxInt} {
				for _, wrong := range []int{math.MinInt, math.MinInt + 1, -1 << 32, -2, -1, 1, 2, 3, 4, 5, 12, 13, 256, 1 << 32, math.MaxInt - 1, math.MaxInt} {
					wantError(t, way{shape, wrong, kind, 0}, text, api.ErrConfig)
					wantError(t, way{shape, 0, kind, wrong}, text, api.ErrConfig)
					wantError(t, way{shape, wrong, kind, wrong}, text, api.ErrConfig)
					wantError(t, way{shape, wrong, kind, -wrong}, text, api.ErrConfig) // also where they sum to 0
				}
				wantError(t, way{shape, 1, kind, 4}, text, api.ErrConfig)
				wantError(t, way{shape, shape, kind, 12}, text, api.ErrConfig)
			}
		}
	}
}

// P16.1 Build: the errors of layer 15's Make: of a kind that there is not, of a text that is too long.
func TestBuildOfMakesErrors(t *testing.T) {
	for shape := 1; shape <= 3; shape++ {
		for _, text := range append(given(), tooLong()...) {
			for _, kind := range append(none(), 1, 2, 3, 4, 5) {
				if _, want := boost.Make(shape, kind, text); want != api.OK {
					wantError(t, way{shape, 0, kind, 0}, text, want)
				}
			}
		}
		wantError(t, way{shape, 0, 4, 0}, nil, api.ErrConfig)
		wantError(t, way{shape, 0, 0, 0}, scattered(300), api.ErrConfig)
		wantError(t, way{shape, 0, -1, 0}, alone(97, longest), api.ErrConfig)
		for kind := 1; kind <= 3; kind++ {
			for _, text := range tooLong() {
				wantError(t, way{shape, 0, kind, 0}, text, api.ErrLong)
			}
		}
	}
}

// P16.1 Build: the errors of layer 15's Build: of an inner shape, a log or a kind that there is not, alone or together, then of a text that is too long.
func TestBuildOfBlocks(t *testing.T) {
	for _, text := range given() {
		for _, wrong := range append(none(), 4, 5) {
			for right := 1; right <= 3; right++ {
				wantError(t, way{4, wrong, right, 4}, text, api.ErrConfig)
				wantError(t, way{4, right, wrong, 12}, text, api.ErrConfig)
				wantError(t, way{4, wrong, wrong, 8}, text, api.ErrConfig)
				for _, log := range []int{math.MinInt, -1, 0, 3, 13, math.MaxInt} {
					wantError(t, way{4, wrong, right, log}, text, api.ErrConfig)
					wantError(t, way{4, right, wrong, log}, text, api.ErrConfig)
					wantError(t, way{4, wrong, wrong, log}, text, api.ErrConfig)
				}
			}
		}
		for _, log := range noLogs() {
			for inner := 1; inner <= 3; inner++ {
				for kind := 1; kind <= 3; kind++ {
					wantError(t, way{4, inner, kind, log}, text, api.ErrConfig)
				}
			}
		}
	}
	for _, w := range ways() {
		for _, text := range tooLong() {
			wantError(t, w, text, api.ErrLong)
		}
	}
}

// P16.1: all that is asked of what is built is told by the text.
func TestAnswers(t *testing.T) {
	t.Parallel()
	for i, text := range texts() {
		for j, w := range ways() {
			if w.log <= 4 || (i+j)%3 == 0 {
				wantTaken(t, built(t, w, text), text)
			}
		}
	}
}

// P16.1: of the longest text that is.
func TestAnswersOfLongest(t *testing.T) {
	t.Parallel()
	for i, w := range []way{{1, 0, 1, 0}, {1, 0, 3, 0}, {2, 0, 1, 0}, {2, 0, 2, 0}, {3, 0, 1, 0}, {3, 0, 2, 0}, {4, 1, 1, 8}, {4, 3, 3, 12}, {4, 2, 1, 12}} {
		text := longTexts()[i%3]
		wantTaken(t, built(t, w, text), text)
	}
}

// P16.1: all places and counts of all symbols that stand, and those past the ends; some symbols that do not stand.
func TestAllAsked(t *testing.T) {
	t.Parallel()
	for _, text := range [][]byte{[]byte("abracadabra, abracadabra"), few(40), scattered(35), alone(9, 33)} {
		stands := places(text)
		var all []int
		for i := range text {
			all = append(all, i)
		}
		for _, w := range someWays() {
			x := built(t, w, text)
			wantAccess(t, x, text, all)
			for c := range 256 {
				if len(stands[c]) > 0 || c%51 == 0 {
					wantRank(t, x, byte(c), text, append(all, len(text)))
					wantSelect(t, x, byte(c), stands[c], all[:len(stands[c])])
				}
			}
		}
	}
}

// P16.1: places and counts far from every text.
func TestFarAsked(t *testing.T) {
	for _, text := range [][]byte{nil, {97}, []byte("abracadabra"), few(48)} {
		for _, w := range someWays() {
			x := built(t, w, text)
			for _, i := range append(far(), len(text)+1) {
				c, e := seq.Access(x, i)
				n, f := seq.Rank(x, 'a', i)
				at, g := seq.Select(x, 'a', i)
				if c != 0 || n != 0 || at != 0 || e != api.ErrRange || f != api.ErrRange || g != api.ErrRange {
					t.Errorf("of %s at %d: Access %d, %d, Rank %d, %d, Select %d, %d", brief(x), i, c, e, n, f, at, g)
				}
			}
		}
	}
}

// answers tells all that is asked of x at some places and symbols, but how many bits it needs.
func answers(x api.Seq) string {
	var l []string
	put := func(v ...any) { l = append(l, fmt.Sprint(v...)) }
	put(seq.Check(x), seq.Text(x))
	for _, i := range []int{math.MinInt, -1, 0, 1, 7, 15, 16, 17, 30, 31, 32, 39, 40, 41, math.MaxInt} {
		c, e := seq.Access(x, i)
		put(i, c, e)
		for _, c := range []byte{0, 1, 'a', 'b', 'r', 200, 255} {
			n, e := seq.Rank(x, c, i)
			at, f := seq.Select(x, c, i)
			put(c, n, e, at, f)
		}
	}
	return fmt.Sprint(l)
}

// P16.2: whichever the shape, the inner one, the kind and the log are, one text answers the same.
func TestAlike(t *testing.T) {
	t.Parallel()
	seen := map[string]int{}
	list := [][]byte{nil, {97}, []byte("abracadabra"), few(31), alone(200, 32), rising(40), scattered(41), few(300)}
	for _, text := range list {
		want := answers(built(t, way{1, 0, 1, 0}, text))
		seen[want]++
		for _, w := range ways() {
			if got := answers(built(t, w, text)); got != want {
				t.Errorf("%s in the way %v answers %s, want %s", short(text), w, got, want)
			}
		}
	}
	if len(seen) != len(list) {
		t.Errorf("%d texts answer in %d ways", len(list), len(seen))
	}
}

// P16.2: the sizes differ, where the layers' do: Size is told by the layer of the shape.
func TestSizes(t *testing.T) {
	for _, c := range []struct {
		way  way
		text []byte
		want int
	}{
		// Eight rows of one bit, with a number of Super and one of Sub.
		{way{1, 0, 1, 0}, []byte{0}, 8 * (1 + 32 + 16)},
		// 256 lengths, one row.
		{way{2, 0, 1, 0}, []byte{0}, 256*6 + 1 + 32 + 16},
		// As the first one, with eight of Zeros.
		{way{3, 0, 1, 0}, []byte{0}, 8 * (1 + 32 + 16 + 32)},
		// As the first one, with 256 of Ahead; and three blocks.
		{way{4, 1, 1, 4}, []byte{0}, 8*(1+32+16) + 256*16},
		{way{4, 1, 1, 4}, rising(40), 8*(16+32+16)*2 + 8*(8+32+16) + 3*256*16},
		{way{4, 1, 1, 4}, nil, 0},
	} {
		if got := seq.Size(built(t, c.way, c.text)); got != c.want {
			t.Errorf("Size of %v of %s = %d, want %d", c.way, short(c.text), got, c.want)
		}
	}
}

// P16.1 Check: a value that no call made, also with a shape.
func TestZeroValues(t *testing.T) {
	wantRefused(t, api.Seq{})
	for _, shape := range append(none(), 1, 2, 3, 4, 5) {
		wantRefused(t, api.Seq{Shape: shape})
		wantRefused(t, api.Seq{Shape: shape, Part: api.Part{Shape: shape}})
		wantRefused(t, api.Seq{Shape: shape, Boost: api.Boost{Inner: shape}})
		wantRefused(t, api.Seq{Part: api.Part{Shape: shape}})
		for kind := 1; kind <= 3; kind++ {
			wantRefused(t, api.Seq{Shape: shape, Part: api.Part{Shape: shape, Tree: api.Tree{Kind: kind}}})
			wantRefused(t, api.Seq{Shape: shape, Boost: api.Boost{Inner: 1, Kind: kind}})
		}
	}
}

// P16.1 Check: what is built, told as of another shape, in Shape alone, in that of the Part alone, or in both.
func TestAnotherShape(t *testing.T) {
	t.Parallel()
	for _, text := range [][]byte{nil, {97}, []byte("abracadabra"), scattered(40)} {
		for _, w := range someWays() {
			x := built(t, w, text)
			for _, other := range append(none(), 1, 2, 3, 4, 5) {
				if other != w.shape {
					wantRefused(t, changed(x, func(y *api.Seq) { y.Shape = other }))
					wantRefused(t, changed(x, func(y *api.Seq) { y.Shape, y.Part.Shape = other, other }))
				}
				if other != x.Part.Shape {
					wantRefused(t, changed(x, func(y *api.Seq) { y.Part.Shape = other }))
				}
			}
		}
	}
}

// filled are values that have something in one field more: they may not be, if that is not the shape's.
func filled(x api.Seq, whole api.Seq) []api.Seq {
	var l []api.Seq
	put := func(shape int, f func(y *api.Seq)) {
		if shape != x.Shape {
			l = append(l, changed(x, f))
		}
	}
	for _, n := range []int{math.MinInt, -1, 1, 3, 4, math.MaxInt} {
		put(1, func(y *api.Seq) { y.Part.Tree.Kind = n })
		put(1, func(y *api.Seq) { y.Part.Tree.N = n })
		put(2, func(y *api.Seq) { y.Part.Shaped.Kind = n })
		put(2, func(y *api.Seq) { y.Part.Shaped.N = n })
		put(3, func(y *api.Seq) { y.Part.Matrix.Kind = n })
		put(3, func(y *api.Seq) { y.Part.Matrix.N = n })
		put(4, func(y *api.Seq) { y.Boost.Inner = n })
		put(4, func(y *api.Seq) { y.Boost.Kind = n })
		put(4, func(y *api.Seq) { y.Boost.Log = n })
		put(4, func(y *api.Seq) { y.Boost.N = n })
	}
	put(1, func(y *api.Seq) { y.Part.Tree.Levels = make([]api.Vector, 1) })
	put(2, func(y *api.Seq) { y.Part.Shaped.Lens = make([]int, 1) })
	put(2, func(y *api.Seq) { y.Part.Shaped.Lens = make([]int, 256) })
	put(2, func(y *api.Seq) { y.Part.Shaped.Nodes = make([]api.Vector, 1) })
	put(3, func(y *api.Seq) { y.Part.Matrix.Levels = make([]api.Vector, 1) })
	put(3, func(y *api.Seq) { y.Part.Matrix.Zeros = make([]int, 1) })
	put(4, func(y *api.Seq) { y.Boost.Parts = make([]api.Part, 1) })
	put(4, func(y *api.Seq) { y.Boost.Ahead = make([]int, 1) })
	put(1, func(y *api.Seq) { y.Part.Tree = whole.Part.Tree })
	put(2, func(y *api.Seq) { y.Part.Shaped = whole.Part.Shaped })
	put(3, func(y *api.Seq) { y.Part.Matrix = whole.Part.Matrix })
	put(4, func(y *api.Seq) { y.Boost = whole.Boost })
	return l
}

// whole answers a value with all fields of a text.
func whole(t *testing.T, kind int, text []byte) api.Seq {
	t.Helper()
	return api.Seq{
		Part: api.Part{
			Tree:   made(t, way{1, 0, kind, 0}, text).Part.Tree,
			Shaped: made(t, way{2, 0, kind, 0}, text).Part.Shaped,
			Matrix: made(t, way{3, 0, kind, 0}, text).Part.Matrix,
		},
		Boost: made(t, way{4, 2, kind, 4}, text).Boost,
	}
}

// P16.1 Check: something in a field that is not the shape's.
func TestOtherFields(t *testing.T) {
	t.Parallel()
	for _, text := range [][]byte{nil, {97}, []byte("abracadabra"), scattered(40)} {
		for kind := 1; kind <= 3; kind++ {
			all := whole(t, kind, text)
			for shape := range 6 {
				wantRefused(t, changed(all, func(y *api.Seq) { y.Shape = shape }))
				wantRefused(t, changed(all, func(y *api.Seq) { y.Shape, y.Part.Shape = shape, shape }))
			}
			for _, w := range someWays() {
				if w.kind == kind {
					for _, y := range filled(built(t, w, text), all) {
						wantRefused(t, y)
					}
				}
			}
		}
	}
}

// damaged are values of which one thing is another.
func damaged(x api.Seq) []api.Seq {
	var l []api.Seq
	put := func(f func(y *api.Seq)) { l = append(l, changed(x, f)) }
	for i := range wordsOf(&x) {
		put(func(y *api.Seq) {
			if w := *wordsOf(y)[i]; len(w) > 0 {
				w[0] ^= 1
			}
		})
		put(func(y *api.Seq) { w := wordsOf(y)[i]; *w = append(*w, 0) })
	}
	for i := range numbersOf(&x) {
		put(func(y *api.Seq) {
			if n := *numbersOf(y)[i]; len(n) > 0 {
				n[len(n)-1]++
			}
		})
		put(func(y *api.Seq) { n := numbersOf(y)[i]; *n = append(*n, 0) })
	}
	for i := range vectorsOf(&x) {
		put(func(y *api.Seq) {
			if rows := vectorsOf(y)[i]; len(*rows) > 0 {
				*rows = (*rows)[1:]
			}
		})
		put(func(y *api.Seq) { rows := vectorsOf(y)[i]; *rows = append(*rows, api.Vector{}) })
	}
	for i := range partsOf(&x) {
		for _, n := range []int{-1, 1, math.MinInt} {
			put(func(y *api.Seq) { partsOf(y)[i].Shape += n })
		}
	}
	for _, n := range []int{math.MinInt, -1, 1, 2, math.MaxInt} {
		for _, f := range []func(y *api.Seq) *int{
			func(y *api.Seq) *int { return &y.Part.Tree.N }, func(y *api.Seq) *int { return &y.Part.Tree.Kind },
			func(y *api.Seq) *int { return &y.Part.Shaped.N }, func(y *api.Seq) *int { return &y.Part.Shaped.Kind },
			func(y *api.Seq) *int { return &y.Part.Matrix.N }, func(y *api.Seq) *int { return &y.Part.Matrix.Kind },
			func(y *api.Seq) *int { return &y.Boost.N }, func(y *api.Seq) *int { return &y.Boost.Kind },
			func(y *api.Seq) *int { return &y.Boost.Log }, func(y *api.Seq) *int { return &y.Boost.Inner },
		} {
			put(func(y *api.Seq) { *f(y) += n })
		}
	}
	return l
}

// P16.1 Check: what layer 15 refuses, or takes for another text.
func TestDamaged(t *testing.T) {
	t.Parallel()
	taken, refused := 0, 0
	for _, text := range [][]byte{{97}, []byte("abracadabra"), few(20)} {
		for _, w := range someWays() {
			for _, y := range damaged(built(t, w, text)) {
				if wantAsBuilt(t, y) {
					taken++
				} else {
					refused++
				}
			}
		}
	}
	if taken < 100 || refused < 1000 {
		t.Errorf("%d values are taken, %d are refused: both should be many", taken, refused)
	}
}

// P16.1 Check: a text that is too long, though its rows are as they would be.
func TestLongerThanAText(t *testing.T) {
	x := built(t, way{4, 1, 1, 12}, few(longest))
	wantRefused(t, changed(x, func(y *api.Seq) {
		y.Boost.N++
		y.Boost.Parts = append(y.Boost.Parts, made(t, way{1, 0, 1, 0}, []byte{97}).Part)
		ahead := make([]int, 256)
		for _, c := range few(longest) {
			ahead[c]++
		}
		y.Boost.Ahead = append(y.Boost.Ahead, ahead...)
	}))
}

// R3: nil and empty lists are the same, also in the fields that are zero; what room a list has behind its end is nobody's.
func TestEmptyLists(t *testing.T) {
	for _, text := range [][]byte{nil, []byte("abracadabra"), few(40)} {
		for _, w := range someWays() {
			wantTaken(t, changed(built(t, w, text), func(x *api.Seq) {
				x.Boost.Parts = append(append(make([]api.Part, 0, 2), x.Boost.Parts...), api.Part{Shape: 3})[:len(x.Boost.Parts)]
				for _, w := range wordsOf(x) {
					*w = append(append(make([]uint64, 0, 2), *w...), 1)[:len(*w)]
				}
				for _, n := range numbersOf(x) {
					*n = append(append(make([]int, 0, 2), *n...), 1)[:len(*n)]
				}
				for _, rows := range vectorsOf(x) {
					*rows = append(append(make([]api.Vector, 0, 2), *rows...), api.Vector{Kind: 1})[:len(*rows)]
				}
			}), text)
		}
	}
	for _, w := range ways() {
		if a, b := built(t, w, nil), built(t, w, []byte{}); told(a) != told(b) {
			t.Errorf("Build %v of nil is %s, of an empty text %s", w, told(a), told(b))
		}
	}
}

// R3: what is built shares nothing with the text, nor with what stands behind its end.
func TestTextGiven(t *testing.T) {
	for _, w := range someWays() {
		for _, n := range []int{0, 1, 16, 47, 64} {
			room := scattered(80)
			x := built(t, w, room[:n])
			if !bytes.Equal(room, scattered(80)) {
				t.Errorf("%v: the text of %d bytes was changed, or what is behind", w, n)
			}
			want := told(x)
			clear(room)
			if told(x) != want {
				t.Errorf("%v: what is built of %d bytes shares memory with its text", w, n)
			}
		}
	}
}

// R3: the lists of what is built share nothing with one another, nor with those of another value.
func TestListsApart(t *testing.T) {
	for _, w := range someWays() {
		for _, text := range [][]byte{[]byte("abracadabra"), alone(97, 48), scattered(40)} {
			x, other := built(t, w, text), built(t, w, text)
			want := told(other)
			mark(x)
			if !marked(x) {
				t.Errorf("lists of Build %v of %s share memory", w, short(text))
			}
			if told(other) != want {
				t.Errorf("two values of %v of one text share memory", w)
			}
		}
	}
}

// mark puts a number of its own all over each list of x, and over the room behind it.
func mark(x api.Seq) {
	for i, w := range wordsOf(&x) {
		all := (*w)[:cap(*w)]
		for j := range all {
			all[j] = uint64(i)
		}
	}
	for i, n := range numbersOf(&x) {
		all := (*n)[:cap(*n)]
		for j := range all {
			all[j] = i
		}
	}
}

// marked tells whether each list of x has its own number still.
func marked(x api.Seq) bool {
	for i, w := range wordsOf(&x) {
		if slices.ContainsFunc(*w, func(v uint64) bool { return v != uint64(i) }) {
			return false
		}
	}
	for i, n := range numbersOf(&x) {
		if slices.ContainsFunc(*n, func(v int) bool { return v != i }) {
			return false
		}
	}
	return true
}

// R3: the text that is answered is the caller's own.
func TestTextAnswered(t *testing.T) {
	for _, w := range someWays() {
		for _, text := range [][]byte{[]byte("abracadabra"), scattered(40)} {
			x := built(t, w, text)
			want := told(x)
			first, second := seq.Text(x), seq.Text(x)
			for i := range first {
				first[i] ^= 255
			}
			if !bytes.Equal(second, text) || !bytes.Equal(seq.Text(x), text) || told(x) != want {
				t.Errorf("Text of %v shares memory", w)
			}
		}
	}
}

// R8: the same call answers the same.
func TestAgain(t *testing.T) {
	text := scattered(300)
	for _, w := range someWays() {
		want := told(built(t, w, text))
		for range 5 {
			if x := built(t, w, text); told(x) != want || !bytes.Equal(seq.Text(x), text) {
				t.Fatalf("Build %v is another one", w)
			}
		}
	}
}

// The chapter's example.
func TestExample(t *testing.T) {
	for _, text := range [][]byte{nil, []byte("abracadabra"), scattered(300), few(longest)} {
		x, e := seq.Build(4, 2, 1, 4, text)
		if e != api.OK || x.Shape != 4 || x.Boost.Inner != 2 || x.Boost.Kind != 1 || x.Boost.Log != 4 || x.Boost.N != len(text) || len(x.Boost.Parts) != (len(text)+15)/16 {
			t.Errorf("of %s: %s, %d", short(text), brief(x), e)
		}
		if told(x.Part) != told(api.Part{}) || !seq.Check(x) || !bytes.Equal(seq.Text(x), text) {
			t.Errorf("of %s: %s is not what it should be", short(text), brief(x))
		}
	}
}
