package bwt_test

import (
	"bytes"
	"fmt"
	"math"
	"slices"
	"testing"

	"haystack/api"
	"haystack/bwt"
)

const longest = 1 << 13 // MaxText, written out as the document does

// scattered answers n bytes of a fixed row that has all of them.
func scattered(n int) []byte {
	text := make([]byte, n)
	x := uint64(88172645463325252)
	for i := range text {
		x ^= x << 13
		x ^= x >> 7
		x ^= x << 17
		text[i] = byte(x >> 40)
	}
	return text
}

// few answers n bytes of a fixed row that has few of them, 0 and 255 among them.
func few(n int) []byte {
	text := scattered(n)
	for i, c := range text {
		text[i] = "aaaaaab\xff\x00"[c%9]
	}
	return text
}

// alone answers n times one byte.
func alone(c byte, n int) []byte {
	return bytes.Repeat([]byte{c}, n)
}

// turns answers n bytes, a and b by turns.
func turns(a byte, b byte, n int) []byte {
	return bytes.Repeat([]byte{a, b}, n/2+1)[:n]
}

// rising answers n bytes, each of them the one that comes behind the one ahead; 0 comes behind 255.
func rising(n int) []byte {
	text := make([]byte, n)
	for i := range text {
		text[i] = byte(i)
	}
	return text
}

// falling answers the bytes of rising from behind.
func falling(n int) []byte {
	text := rising(n)
	slices.Reverse(text)
	return text
}

// all answers all rows of at most n bytes, each byte one of some.
func all(some []byte, n int) [][]byte {
	l := [][]byte{nil}
	last := l
	for range n {
		var next [][]byte
		for _, text := range last {
			for _, c := range some {
				next = append(next, slices.Concat(text, []byte{c}))
			}
		}
		l, last = slices.Concat(l, next), next
	}
	return l
}

// texts are the short texts.
func texts() [][]byte {
	return [][]byte{
		nil, {}, {0}, {255}, {97}, {127, 128}, {128, 127}, {0, 255}, {255, 0}, {0, 0}, {255, 255},
		[]byte("banana"), []byte("abracadabra"), []byte("mississippi"), []byte("tobeornottobe"), []byte("aabaab\x00aab"),
		alone(0, 100), alone(255, 101), alone(97, 128),
		turns(0, 255, 90), turns(255, 0, 91), turns(97, 98, 128), turns(98, 97, 129),
		rising(256), falling(256), rising(300), falling(300), rising(512),
		few(40), few(300), scattered(17), scattered(300),
		slices.Concat(alone(97, 63), []byte("b"), alone(97, 64)), slices.Concat(scattered(100), scattered(100), scattered(99)),
	}
}

// longTexts are texts of as many bytes as a text has at most, or nearly so.
func longTexts() [][]byte {
	return [][]byte{
		alone(0, longest), alone(255, longest), alone(97, longest-1),
		turns(0, 255, longest), turns(98, 97, longest-1),
		scattered(longest), few(longest), rising(longest), falling(longest),
		slices.Concat(scattered(longest/2), scattered(longest/2)),
	}
}

// tooLong are texts that are longer than a text is.
func tooLong() [][]byte {
	return [][]byte{scattered(longest + 1), alone(0, longest+1), alone(97, longest+1), rising(longest + 2), turns(97, 98, 2*longest), scattered(1 << 16)}
}

// far are numbers that are far from every place.
func far() []int {
	return []int{math.MinInt, math.MinInt + 1, math.MinInt32, -1 << 32, -longest, -2, 1 << 20, math.MaxInt32, 1 << 32, 1<<32 + 1, math.MaxInt - longest, math.MaxInt - 1, math.MaxInt}
}

// ordered answers the places of a text's ends in order, by sorting the ends themselves.
func ordered(text []byte) []int {
	l := make([]int, len(text)+1)
	for i := range l {
		l[i] = i
	}
	slices.SortFunc(l, func(i, j int) int { return bytes.Compare(text[i:], text[j:]) })
	return l
}

// countsOf answers by the document's words of each c how many ends there are that are empty, or begin with a byte less than c.
func countsOf(text []byte) []int {
	l := make([]int, 257)
	for c := range l {
		for i := range len(text) + 1 {
			if i == len(text) || int(text[i]) < c {
				l[c]++
			}
		}
	}
	return l
}

// turned answers Make of a text by the document's words.
func turned(text []byte) api.Bwt {
	b := api.Bwt{C: countsOf(text), Row: -1}
	for place, i := range ordered(text) {
		if i == 0 {
			b.Row = place
		} else {
			b.Last = append(b.Last, text[i-1])
		}
	}
	return b
}

// same tells whether two values are alike in all they have.
func same(a api.Bwt, b api.Bwt) bool {
	return bytes.Equal(a.Last, b.Last) && a.Row == b.Row && slices.Equal(a.C, b.C)
}

// copied answers a value that shares nothing with b.
func copied(b api.Bwt) api.Bwt {
	return api.Bwt{Last: bytes.Clone(b.Last), Row: b.Row, C: slices.Clone(b.C)}
}

// made answers Make of a text that is none too long.
func made(t *testing.T, text []byte) api.Bwt {
	t.Helper()
	b, e := bwt.Make(text)
	if e != api.OK {
		t.Fatalf("Make(%s): %d", short(text), e)
	}
	return b
}

// short tells a text in few words.
func short(text []byte) string {
	return fmt.Sprintf("%d bytes %q..", len(text), text[:min(12, len(text))])
}

// brief tells a value in few words.
func brief(b api.Bwt) string {
	return fmt.Sprintf("Last %s Row %d, C %d numbers", short(b.Last), b.Row, len(b.C))
}

// sought answers the text whose Make is b, and whether there is one, C being that of Last: the bytes from the last one on can only be those that are met on the way from place 0, and Make of them, by the document's words, tells whether they are a text of that value.
func sought(b api.Bwt) ([]byte, bool) {
	var text []byte
	place := 0
	for range b.Last {
		at := place
		if place == b.Row {
			return nil, false
		} else if place > b.Row {
			at--
		}
		c := b.Last[at]
		text = append(text, c)
		place = b.C[c] + bytes.Count(b.Last[:at], []byte{c})
	}
	slices.Reverse(text)
	return text, same(turned(text), b)
}

// wantNone checks that there is no text of a value: what each call answers of it, and that it stays as it is.
func wantNone(t *testing.T, b api.Bwt) {
	t.Helper()
	before := copied(b)
	if text, e := bwt.Back(b); len(text) != 0 || e != api.ErrForm {
		t.Errorf("Back(%s) = %s, %d, want ErrForm", brief(b), short(text), e)
	}
	if bwt.Check(b) {
		t.Errorf("Check(%s) = true", brief(b))
	}
	if n := bwt.Runs(b); n != 0 {
		t.Errorf("Runs(%s) = %d, want 0", brief(b), n)
	}
	n := len(b.Last)
	for _, i := range []int{0, n / 2, n} {
		wantStep(t, b, i, 0, api.ErrArg)
	}
	for _, i := range []int{-1, n + 1, math.MinInt, math.MaxInt} {
		wantStep(t, b, i, 0, api.ErrRange)
	}
	if !same(b, before) {
		t.Errorf("%s became %s", brief(before), brief(b))
	}
}

// wantText checks what each call but Step answers of a value of which there is a text, and that it stays as it is.
func wantText(t *testing.T, b api.Bwt, want []byte) {
	t.Helper()
	before := copied(b)
	if text, e := bwt.Back(b); !bytes.Equal(text, want) || e != api.OK {
		t.Errorf("Back(%s) = %s, %d, want %s", brief(b), short(text), e, short(want))
	}
	if !bwt.Check(b) {
		t.Errorf("Check(%s) = false", brief(b))
	}
	if n := bwt.Runs(b); n != runs(b.Last) {
		t.Errorf("Runs(%s) = %d, want %d", brief(b), n, runs(b.Last))
	}
	if !same(b, before) {
		t.Errorf("%s became %s", brief(before), brief(b))
	}
}

// wantWhatIs checks a value whose C is that of Last, and tells whether there is a text of it.
func wantWhatIs(t *testing.T, b api.Bwt) bool {
	t.Helper()
	text, ok := sought(b)
	if ok {
		wantText(t, b, text)
	} else {
		wantNone(t, b)
	}
	return ok
}

// wantStep checks that Step answers that.
func wantStep(t *testing.T, b api.Bwt, i int, want int, err api.Errno) {
	t.Helper()
	if got, e := bwt.Step(b, i); got != want || e != err {
		t.Errorf("Step(%s, %d) = %d, %d, want %d, %d", brief(b), i, got, e, want, err)
	}
}

// runs answers how many runs some bytes have: how many bytes are left, if likes side by side become one.
func runs(some []byte) int {
	return len(slices.Compact(bytes.Clone(some)))
}

// runsByWords counts the bytes that are another than the one ahead, and one, if there are some.
func runsByWords(some []byte) int {
	n := min(1, len(some))
	for i := 1; i < len(some); i++ {
		if some[i] != some[i-1] {
			n++
		}
	}
	return n
}

// wantMake checks Make of a text against the order of the ends themselves, and that Back leads back.
func wantMake(t *testing.T, text []byte) {
	t.Helper()
	got, want := made(t, text), turned(text)
	if !bytes.Equal(got.Last, want.Last) || got.Row != want.Row {
		t.Errorf("Make(%s) = %s, want %s", short(text), brief(got), brief(want))
	}
	if len(got.C) != 257 {
		t.Fatalf("Make(%s): C has %d numbers", short(text), len(got.C))
	}
	for c, n := range want.C {
		if got.C[c] != n {
			t.Errorf("Make(%s): C[%d] = %d, want %d", short(text), c, got.C[c], n)
		}
	}
	wantText(t, got, text)
}

// P18.1 Make, P18.2 Back, Check and Runs, P18.3: short texts.
func TestMake(t *testing.T) {
	for _, text := range texts() {
		wantMake(t, text)
	}
}

// P18.1 Make, P18.3: all texts of few bytes, and texts of each length up to some hundred bytes.
func TestMakeAll(t *testing.T) {
	for _, text := range slices.Concat(all([]byte{0, 255}, 7), all([]byte("abc"), 5), all([]byte{0, 1, 254, 255}, 3)) {
		wantMake(t, text)
	}
	for n := range 140 {
		wantMake(t, alone(255, n))
		wantMake(t, turns(255, 0, n))
		wantMake(t, few(n))
	}
}

// P18.1 Make: each byte counts as a number from 0 to 255.
func TestMakeBytes(t *testing.T) {
	for c := range 256 {
		b := made(t, []byte{byte(c)})
		if string(b.Last) != string([]byte{byte(c)}) || b.Row != 1 {
			t.Errorf("Make of byte %d = %s", c, brief(b))
		}
		for x, n := range b.C {
			if want := 1 + min(1, max(0, x-c)); n != want {
				t.Errorf("Make of byte %d: C[%d] = %d, want %d", c, x, n, want)
			}
		}
	}
}

// P18.1 Make: no byte: the empty end is the whole text.
func TestMakeNone(t *testing.T) {
	for _, text := range [][]byte{nil, {}, scattered(5)[:0]} {
		b := made(t, text)
		if len(b.Last) != 0 || b.Row != 0 || !slices.Equal(b.C, slices.Repeat([]int{1}, 257)) {
			t.Errorf("Make of no bytes = %v", b)
		}
		wantText(t, b, nil)
		wantStep(t, b, 0, 0, api.OK)
		for _, i := range append(far(), -1, 1) {
			wantStep(t, b, i, 0, api.ErrRange)
		}
	}
}

// P18.1 Make, P18.3: the longest texts that there are.
func TestMakeLongest(t *testing.T) {
	t.Parallel()
	for _, text := range longTexts() {
		wantMake(t, text)
	}
}

// P18.1 Make: texts whose order is told without sorting.
func TestMakeKnown(t *testing.T) {
	for _, n := range []int{1, 2, 300, longest} {
		if b := made(t, alone(97, n)); !bytes.Equal(b.Last, alone(97, n)) || b.Row != n {
			t.Errorf("Make of %d times a = %s", n, brief(b))
		}
	}
	want := slices.Concat([]byte{255}, rising(255))
	if b := made(t, rising(256)); !bytes.Equal(b.Last, want) || b.Row != 1 || b.C[0] != 1 || b.C[200] != 201 || b.C[256] != 257 {
		t.Errorf("Make of all bytes, rising = %s", brief(b))
	}
}

// P18.1 Make: ErrLong of more than MaxText bytes, and nothing beside it.
func TestMakeLong(t *testing.T) {
	for _, text := range tooLong() {
		before := bytes.Clone(text)
		if b, e := bwt.Make(text); len(b.Last) != 0 || b.Row != 0 || len(b.C) != 0 || e != api.ErrLong {
			t.Errorf("Make(%s) = %s, %d, want ErrLong", short(text), brief(b), e)
		}
		if !bytes.Equal(text, before) {
			t.Errorf("Make changed %s", short(before))
		}
	}
	if api.OK != 0 || api.ErrArg != 2 || api.ErrRange != 3 || api.ErrLong != 4 || api.ErrForm != 161 || api.MaxText != longest {
		t.Error("the errors, or the limit, are others than the document's")
	}
}

// P18.2: of all values of few bytes, each Row beside each Last, just those that are Make of a text have one.
func TestBackAll(t *testing.T) {
	for _, l := range [][][]byte{all([]byte{0, 255}, 7), all([]byte("abc"), 5), all([]byte{0, 97, 98, 255}, 3)} {
		texts := map[string][]byte{}
		key := func(b api.Bwt) string { return fmt.Sprint(b.Row, b.Last) }
		for _, text := range l {
			texts[key(turned(text))] = text
		}
		if len(texts) != len(l) {
			t.Fatal("two texts have one value")
		}
		taken := 0
		for _, last := range l {
			for row := -1; row <= len(last)+1; row++ {
				b := api.Bwt{Last: last, Row: row, C: countsOf(last)}
				if text, ok := texts[key(b)]; ok {
					taken++
					wantText(t, b, text)
				} else {
					wantNone(t, b)
				}
			}
		}
		if taken != len(l) {
			t.Errorf("%d values of %d texts", taken, len(l))
		}
	}
}

// P18.2: Row that is no place.
func TestRowNowhere(t *testing.T) {
	for _, text := range append(texts(), scattered(longest), alone(0, longest)) {
		for _, row := range append(far(), -1, len(text)+1, len(text)+2) {
			b := turned(text)
			b.Row = row
			wantNone(t, b)
		}
	}
}

// P18.2: Row that is another place than the text's, how many bytes there are among them: another text, or none.
func TestRowOther(t *testing.T) {
	for _, text := range texts() {
		b := turned(text)
		own := b.Row
		for row := 0; row <= len(text); row += 1 + len(text)/40 {
			b.Row = row
			wantWhatIs(t, b)
		}
		for _, row := range []int{own - 1, own, own + 1, len(text)} {
			if row >= 0 && row <= len(text) {
				b.Row = row
				wantWhatIs(t, b)
			}
		}
		b.Row = own
		wantText(t, b, text)
	}
	wantText(t, api.Bwt{Last: []byte("ab"), Row: 2, C: countsOf([]byte("ab"))}, []byte("ba"))
	wantText(t, api.Bwt{Last: []byte("ba"), Row: 1, C: countsOf([]byte("ab"))}, []byte("ab"))
	for _, row := range []int{0, 1} {
		wantNone(t, api.Bwt{Last: []byte("ab"), Row: row, C: countsOf([]byte("ab"))})
	}
}

// P18.2: Last with two bytes exchanged: another text, or none. Both are among them.
func TestLastExchanged(t *testing.T) {
	some, none := 0, 0
	for _, text := range texts() {
		want := turned(text)
		for _, k := range []int{1, 2, len(text) / 2, len(text) - 1} {
			for i := 0; k > 0 && i+k < len(text); i += 1 + len(text)/20 {
				b := copied(want)
				b.Last[i], b.Last[i+k] = b.Last[i+k], b.Last[i]
				if same(b, want) {
					wantText(t, b, text)
				} else if wantWhatIs(t, b) {
					some++
				} else {
					none++
				}
			}
		}
	}
	if some == 0 || none == 0 {
		t.Errorf("%d values have another text, %d none", some, none)
	}
}

// P18.2: the longest values, with another Row, or two bytes of Last exchanged.
func TestLongestOther(t *testing.T) {
	t.Parallel()
	for _, text := range longTexts() {
		want := turned(text)
		for _, row := range []int{0, want.Row - 1, want.Row + 1, len(text)} {
			b := copied(want)
			if b.Row = row; row <= len(text) {
				wantWhatIs(t, b)
			}
		}
		for _, i := range []int{0, len(text) / 2, len(text) - 2} {
			b := copied(want)
			b.Last[i], b.Last[i+1] = b.Last[i+1], b.Last[i]
			wantWhatIs(t, b)
		}
	}
}

// P18.2: C with a number too many or too few, or none.
func TestCountsLength(t *testing.T) {
	for _, text := range append(texts(), few(longest)) {
		b := turned(text)
		right := b.C
		for _, c := range [][]int{nil, {}, {0}, {1}, right[1:], right[:256], right[:255], append(slices.Clone(right), right[256]), append(slices.Clone(right), 0), slices.Insert(slices.Clone(right), 0, 0), slices.Concat(right, right), make([]int, 257)} {
			b.C = c
			wantNone(t, b)
		}
	}
}

// P18.2: C with one number changed, whichever it is, also one of a byte that the text has not.
func TestCountsChanged(t *testing.T) {
	for _, text := range [][]byte{nil, {0}, {255}, []byte("banana"), few(40), rising(256)} {
		b := turned(text)
		for c, right := range b.C {
			for _, wrong := range []int{right - 1, right + 1, -right, 1 << 32, math.MinInt, math.MaxInt} {
				b.C[c] = wrong
				wantNone(t, b)
			}
			b.C[c] = right
		}
		wantText(t, b, text)
	}
}

// P18.2: C of another text, which has another byte, or as many of others.
func TestCountsOther(t *testing.T) {
	for _, text := range texts() {
		b := turned(text)
		for _, other := range texts() {
			if c := countsOf(other); !slices.Equal(c, b.C) {
				wantNone(t, api.Bwt{Last: b.Last, Row: b.Row, C: c})
			}
		}
	}
}

// P18.2: Last with a byte too many or too few, or with another byte.
func TestLastOther(t *testing.T) {
	for _, text := range texts() {
		want := turned(text)
		wantNone(t, api.Bwt{Last: append(bytes.Clone(want.Last), 97), Row: want.Row, C: want.C})
		if len(text) > 0 {
			wantNone(t, api.Bwt{Last: want.Last[1:], Row: want.Row, C: want.C})
			wantNone(t, api.Bwt{Last: want.Last[:len(text)-1], Row: want.Row, C: want.C})
			wantNone(t, api.Bwt{Row: want.Row, C: want.C})
		}
		for _, at := range []int{0, len(text) / 2, len(text) - 1} {
			if at >= 0 && at < len(text) {
				b := copied(want)
				b.Last[at]++
				wantNone(t, b)
			}
		}
	}
}

// P18.2: Last that is longer than MaxText has no text, also where all else would fit.
func TestLastLong(t *testing.T) {
	t.Parallel()
	for _, text := range tooLong() {
		if len(text) <= longest+2 {
			wantNone(t, turned(text))
		}
		wantNone(t, api.Bwt{Last: text, Row: len(text), C: countsOf(text)})
	}
}

// R1: the zero value is Make of no text, not even of the empty one.
func TestZero(t *testing.T) {
	wantNone(t, api.Bwt{})
	wantNone(t, api.Bwt{Last: []byte{}, C: []int{}})
	wantNone(t, api.Bwt{C: make([]int, 257)})
	wantNone(t, api.Bwt{C: make([]int, 1<<16)})
	for _, i := range far() {
		wantStep(t, api.Bwt{}, i, 0, api.ErrRange)
	}
}

// wantSteps checks Step of each place of a text against the order of the ends themselves.
func wantSteps(t *testing.T, text []byte) {
	t.Helper()
	b, ends := made(t, text), ordered(text)
	before := copied(b)
	at := make([]int, len(ends))
	for place, end := range ends {
		at[end] = place
	}
	for place, end := range ends {
		want := 0
		if end > 0 {
			want = at[end-1]
		}
		wantStep(t, b, place, want, api.OK)
	}
	if !same(b, before) {
		t.Errorf("Step changed %s", brief(before))
	}
}

// wantRound checks that as many Steps as there are ends lead from a place through all of them, and back.
func wantRound(t *testing.T, b api.Bwt, from int) {
	t.Helper()
	seen := make([]int, len(b.Last)+1)
	place := from
	for range seen {
		seen[place]++
		next, e := bwt.Step(b, place)
		if e != api.OK || next < 0 || next >= len(seen) {
			t.Fatalf("Step(%s, %d) = %d, %d", brief(b), place, next, e)
		}
		place = next
	}
	if place != from || slices.Max(seen) != 1 || slices.Min(seen) != 1 {
		t.Errorf("%s: Steps lead from %d to %d, through places %d to %d times", brief(b), from, place, slices.Min(seen), slices.Max(seen))
	}
}

// P18.2 Step, P18.3: each place of short texts, and the way round from some of them.
func TestStep(t *testing.T) {
	for _, text := range append(texts(), all([]byte{0, 97, 255}, 4)...) {
		wantSteps(t, text)
		b := made(t, text)
		wantStep(t, b, b.Row, 0, api.OK)
		for _, from := range []int{0, b.Row, len(text) / 2, len(text)} {
			wantRound(t, b, from)
		}
	}
}

// P18.2 Step, P18.3: each place of the longest text.
func TestStepLongest(t *testing.T) {
	t.Parallel()
	wantSteps(t, scattered(longest))
	wantRound(t, made(t, few(longest)), 0)
}

// P18.2 Step: ErrRange of a place that there is not.
func TestStepNowhere(t *testing.T) {
	for _, text := range append(texts(), scattered(longest)) {
		b := made(t, text)
		for _, i := range append(far(), -1, len(text)+1, len(text)+2) {
			wantStep(t, b, i, 0, api.ErrRange)
		}
		if _, e := bwt.Step(b, len(text)); e != api.OK { // how many bytes there are is a place yet
			t.Errorf("Step(%s, %d): %d", brief(b), len(text), e)
		}
	}
}

// P18.2 Step: ErrArg of a value that may not be, at each place; ErrRange, which is named first, of other places.
func TestStepRefused(t *testing.T) {
	for _, text := range texts() {
		b := made(t, text)
		b.C[256]++
		for i := -2; i <= len(text)+2; i++ {
			if i < 0 || i > len(text) {
				wantStep(t, b, i, 0, api.ErrRange)
			} else {
				wantStep(t, b, i, 0, api.ErrArg)
			}
		}
	}
}

// P18.2 Runs: texts of no byte, of one, of runs and of none.
func TestRuns(t *testing.T) {
	known := []struct {
		text []byte
		want int
	}{
		{nil, 0}, {[]byte{}, 0}, {[]byte{0}, 1}, {[]byte{255}, 1}, {[]byte("aa"), 1}, {[]byte("ab"), 2}, {[]byte("ba"), 2},
		{[]byte("banana"), 4}, {alone(0, 2), 1}, {alone(97, 300), 1}, {alone(255, longest), 1}, {rising(256), 256}, {turns(97, 98, 100), 2}, {turns(98, 97, 101), 2},
	}
	for _, k := range known {
		if got := bwt.Runs(made(t, k.text)); got != k.want {
			t.Errorf("Runs of %s = %d, want %d", short(k.text), got, k.want)
		}
	}
	for _, text := range slices.Concat(texts(), longTexts(), all([]byte("ab"), 7)) {
		b := made(t, text)
		if got, want := bwt.Runs(b), runsByWords(b.Last); got != want {
			t.Errorf("Runs of %s = %d, want %d", short(text), got, want)
		}
	}
}

// P18.2 Runs: 0 of a value that may not be.
func TestRunsRefused(t *testing.T) {
	for _, text := range texts() {
		b := made(t, text)
		b.Row = -1
		if n := bwt.Runs(b); n != 0 {
			t.Errorf("Runs(%s) = %d, want 0", brief(b), n)
		}
	}
	if n := bwt.Runs(turned(scattered(longest + 1))); n != 0 {
		t.Errorf("Runs of what is too long = %d, want 0", n)
	}
}

// R3: a text stays as it is, and so does what stands behind its end; what Make answers shares nothing with it, nor with another answer.
func TestTextGiven(t *testing.T) {
	for _, n := range []int{0, 1, 40, 299} {
		room := few(300)
		b := made(t, room[:n])
		if !bytes.Equal(room, few(300)) {
			t.Errorf("a text of %d bytes was changed, or what is behind", n)
		}
		want := turned(few(300)[:n:n])
		other := made(t, room[:n])
		clear(room)
		if !same(b, want) {
			t.Errorf("Make of %d bytes shares memory with them, or hangs on what is behind", n)
		}
		clear(b.Last[:cap(b.Last)])
		clear(b.C[:cap(b.C)])
		if !same(other, want) || !same(made(t, few(300)[:n]), want) {
			t.Errorf("two Makes of %d bytes share memory", n)
		}
	}
	for _, text := range longTexts() {
		before := bytes.Clone(text)
		made(t, text)
		if !bytes.Equal(text, before) {
			t.Errorf("Make changed %s", short(before))
		}
	}
}

// R3: what Back answers shares nothing with what it was given, nor with another answer; what stands behind the ends of Last and C stays, and does not count.
func TestValueGiven(t *testing.T) {
	for _, text := range texts() {
		want := turned(text)
		last, c := append(bytes.Clone(want.Last), 1, 2, 3), append(slices.Clone(want.C), 4, 5, 6)
		b := api.Bwt{Last: last[:len(want.Last)], Row: want.Row, C: c[:257]}
		wantText(t, b, text)
		wantRound(t, b, 0)
		if !bytes.Equal(last, append(bytes.Clone(want.Last), 1, 2, 3)) || !slices.Equal(c, append(slices.Clone(want.C), 4, 5, 6)) {
			t.Errorf("a value of %s was changed, or what is behind", short(text))
		}
		first, _ := bwt.Back(b)
		second, _ := bwt.Back(b)
		clear(last)
		clear(c)
		if !bytes.Equal(first, text) {
			t.Errorf("Back of %s shares memory with what it was given", short(text))
		}
		clear(first[:cap(first)])
		if !bytes.Equal(second, text) {
			t.Errorf("two Backs of %s share memory", short(text))
		}
	}
}

// R8: the same call answers the same.
func TestAgain(t *testing.T) {
	for _, text := range texts() {
		want := made(t, text)
		for range 3 {
			if got := made(t, text); !same(got, want) {
				t.Errorf("Make(%s) is another one", short(text))
			}
			wantText(t, want, text)
		}
	}
}

// The chapter's example.
func TestExample(t *testing.T) {
	b, e := bwt.Make([]byte("banana"))
	if e != api.OK || string(b.Last) != "annbaa" || b.Row != 4 {
		t.Errorf("Make of banana = %s, %d", brief(b), e)
	}
	for c, want := range map[int]int{0: 1, 'a': 1, 'b': 4, 'c': 5, 'n': 5, 'o': 7, 256: 7} {
		if b.C[c] != want {
			t.Errorf("Make of banana: C[%d] = %d, want %d", c, b.C[c], want)
		}
	}
	if text, e := bwt.Back(b); e != api.OK || string(text) != "banana" {
		t.Errorf("Back of banana's = %q, %d", text, e)
	}
	for place, want := range []int{1, 5, 6, 4, 0, 2, 3} {
		wantStep(t, b, place, want, api.OK)
	}
	if n := bwt.Runs(b); n != 4 {
		t.Errorf("Runs of banana's = %d", n)
	}
}
