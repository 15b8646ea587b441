package suffix_test

import (
	"bytes"
	"fmt"
	"math"
	"slices"
	"testing"

	"haystack/api"
	"haystack/suffix"
)

const longest = 1 << 13 // MaxText, written out as the document does

// scattered answers n bytes of a fixed row that has all of them.
func scattered(n int) []byte {
	text := make([]byte, n)
	x := uint64(88172645463325252)
	for i := range text {
		x ^= x << 13
		x ^= x >> 7
		x ^= x << 17
		text[i] = byte(x >> 40)
	}
	return text
}

// few answers n bytes of a fixed row that has few of them, 0 and 255 among them.
func few(n int) []byte {
	text := scattered(n)
	for i, c := range text {
		text[i] = "aaaaaab\xff\x00"[c%9]
	}
	return text
}

// alone answers n times one byte.
func alone(c byte, n int) []byte {
	return bytes.Repeat([]byte{c}, n)
}

// turns answers n bytes, a and b by turns.
func turns(a byte, b byte, n int) []byte {
	return bytes.Repeat([]byte{a, b}, n/2+1)[:n]
}

// rising answers n bytes, each of them the one that comes behind the one ahead; 0 comes behind 255.
func rising(n int) []byte {
	text := make([]byte, n)
	for i := range text {
		text[i] = byte(i)
	}
	return text
}

// falling answers the bytes of rising from behind.
func falling(n int) []byte {
	text := rising(n)
	slices.Reverse(text)
	return text
}

// words answers n bytes of the row that begins with b, then a, each word behind being the last two joined: it is like itself all over.
func words(n int) []byte {
	a, b := []byte("b"), []byte("a")
	for len(b) < n {
		a, b = b, slices.Concat(b, a)
	}
	return b[:n]
}

// all answers all texts of at most n bytes, each byte one of some.
func all(some []byte, n int) [][]byte {
	l := [][]byte{nil}
	last := l
	for range n {
		var next [][]byte
		for _, text := range last {
			for _, c := range some {
				next = append(next, slices.Concat(text, []byte{c}))
			}
		}
		l, last = slices.Concat(l, next), next
	}
	return l
}

// texts are the short texts.
func texts() [][]byte {
	return [][]byte{
		nil, {}, {0}, {255}, {97}, {127, 128}, {128, 127}, {0, 255}, {255, 0}, {0, 0}, {255, 255},
		[]byte("banana"), []byte("abracadabra"), []byte("mississippi"), []byte("tobeornottobe"), []byte("aabaab\x00aab"),
		alone(0, 100), alone(255, 101), alone(97, 128), alone(97, 127), alone(97, 129),
		turns(0, 255, 90), turns(255, 0, 91), turns(97, 98, 128), turns(98, 97, 129), turns(0, 1, 130),
		rising(256), falling(256), rising(300), falling(300), rising(512),
		words(144), words(200), few(40), few(300), scattered(17), scattered(300),
		slices.Concat(alone(97, 63), []byte("b"), alone(97, 64)), slices.Concat(scattered(100), scattered(100), scattered(99)),
	}
}

// longTexts are texts of as many bytes as a text has at most, or nearly so.
func longTexts() [][]byte {
	return [][]byte{
		alone(0, longest), alone(255, longest), alone(97, longest-1),
		turns(0, 255, longest), turns(98, 97, longest-1),
		scattered(longest), few(longest), rising(longest), falling(longest), words(longest),
		slices.Concat(alone(97, longest-1), []byte("b")), slices.Concat([]byte("b"), alone(97, longest-1)),
		slices.Concat(scattered(longest/2), scattered(longest/2)),
	}
}

// tooLong are texts that are longer than a text is.
func tooLong() [][]byte {
	return [][]byte{scattered(longest + 1), alone(0, longest+1), alone(97, longest+1), rising(longest + 2), turns(97, 98, 2*longest), scattered(1 << 16)}
}

// far are numbers that are far from every place.
func far() []int {
	return []int{math.MinInt, math.MinInt + 1, math.MinInt32, -1 << 32, -longest, -2, 1 << 20, math.MaxInt32, 1 << 32, 1<<32 + 1, math.MaxInt - longest, math.MaxInt - 1, math.MaxInt}
}

// ahead tells by the document's words whether an end is ahead of another one: the first byte that is another decides, and one that is the beginning of another is ahead of it.
func ahead(a []byte, b []byte) bool {
	for k := 0; k < len(a) && k < len(b); k++ {
		if a[k] != b[k] {
			return a[k] < b[k]
		}
	}
	return len(a) < len(b)
}

// ordered answers the places of a text's ends in order, by sorting the ends themselves.
func ordered(text []byte) []int {
	l := make([]int, len(text)+1)
	for i := range l {
		l[i] = i
	}
	slices.SortFunc(l, func(i, j int) int {
		switch {
		case ahead(text[i:], text[j:]):
			return -1
		case ahead(text[j:], text[i:]):
			return 1
		}
		return 0
	})
	return l
}

// array answers Array of a text that is none too long.
func array(t *testing.T, text []byte) []int {
	t.Helper()
	l, e := suffix.Array(text)
	if e != api.OK {
		t.Fatalf("Array(%s): %d", short(text), e)
	}
	return l
}

// short tells a text in few words.
func short(text []byte) string {
	return fmt.Sprintf("%d bytes %q..", len(text), text[:min(12, len(text))])
}

// brief tells a row in few words.
func brief(l []int) string {
	return fmt.Sprintf("%d numbers %v..", len(l), l[:min(12, len(l))])
}

// wantLess checks that Less answers that for i and j of a text.
func wantLess(t *testing.T, text []byte, i int, j int, want bool) {
	t.Helper()
	if got := suffix.Less(text, i, j); got != want {
		t.Errorf("Less(%s, %d, %d) = %t, want %t", short(text), i, j, got, want)
	}
}

// P17.1 Less: each pair of places, i equal to j and the empty end among them.
func TestLess(t *testing.T) {
	for _, text := range append(texts(), all([]byte{0, 97, 255}, 4)...) {
		for i := range len(text) + 1 {
			for j := range len(text) + 1 {
				wantLess(t, text, i, j, ahead(text[i:], text[j:]))
			}
		}
	}
}

// P17.1 Less: an end that is the beginning of another is ahead of it, the empty one ahead of all others; none is ahead of itself.
func TestLessBeginning(t *testing.T) {
	for _, c := range []byte{0, 1, 97, 127, 128, 255} {
		text := alone(c, 20)
		for i := range len(text) + 1 {
			wantLess(t, text, i, i, false)
			for j := range i {
				wantLess(t, text, i, j, true)
				wantLess(t, text, j, i, false)
			}
		}
	}
	for _, text := range texts() {
		for i := range len(text) {
			wantLess(t, text, len(text), i, true)
			wantLess(t, text, i, len(text), false)
		}
	}
	text := []byte("banana")
	wantLess(t, text, 3, 1, true)  // ana, anana
	wantLess(t, text, 1, 3, false) // anana, ana
	wantLess(t, text, 4, 2, true)  // na, nana
	wantLess(t, text, 1, 0, true)  // anana, banana
}

// P17.1 Less: bytes count as numbers from 0 to 255, none of them as one below 0.
func TestLessBytes(t *testing.T) {
	text := rising(256)
	for i := range text {
		for j := range text {
			wantLess(t, text, i, j, i < j)
		}
	}
}

// P17.1 Less: false, if there is no end at i, or none at j.
func TestLessNowhere(t *testing.T) {
	for _, text := range append(texts(), scattered(longest), scattered(longest+1)) {
		places := []int{0, len(text) / 2, len(text)}
		none := append(far(), -1, len(text)+1, len(text)+2)
		for _, i := range none {
			for _, j := range slices.Concat(places, none) {
				wantLess(t, text, i, j, false)
				wantLess(t, text, j, i, false)
			}
		}
	}
}

// P17.1 Less: of no bytes there is the empty end alone.
func TestLessEmpty(t *testing.T) {
	for _, text := range [][]byte{nil, {}, scattered(10)[:0]} {
		for _, i := range append(far(), -1, 0, 1) {
			for _, j := range append(far(), -1, 0, 1) {
				wantLess(t, text, i, j, false)
			}
		}
	}
}

// P17.1 Less: how long a text is does not count, only whether there are such ends.
func TestLessLong(t *testing.T) {
	for _, text := range append(longTexts(), tooLong()...) {
		n := len(text)
		for _, i := range []int{0, 1, n / 2, n - 2, n - 1, n} {
			for _, j := range []int{0, 1, n / 2, n - 2, n - 1, n} {
				wantLess(t, text, i, j, ahead(text[i:], text[j:]))
			}
		}
	}
}

// wantArray checks Array of a text against an order of the ends themselves, and all that follows.
func wantArray(t *testing.T, text []byte) {
	t.Helper()
	got := array(t, text)
	if want := ordered(text); !slices.Equal(got, want) {
		t.Errorf("Array(%s) = %s, want %s", short(text), brief(got), brief(want))
	}
	wantRising(t, text, got)
}

// wantRising checks that each end is ahead of the next one, and that no end is left out.
func wantRising(t *testing.T, text []byte, sa []int) {
	t.Helper()
	if len(sa) != len(text)+1 {
		t.Fatalf("Array(%s) has %d ends", short(text), len(sa))
	}
	if sa[0] != len(text) {
		t.Errorf("Array(%s) begins with %d, not with the empty end", short(text), sa[0])
	}
	for place := range len(sa) - 1 {
		i, j := sa[place], sa[place+1]
		if !suffix.Less(text, i, j) || suffix.Less(text, j, i) || !ahead(text[i:], text[j:]) {
			t.Fatalf("Array(%s): the end at %d is not ahead of that at %d", short(text), i, j)
		}
	}
}

// P17.1 Array, P17.3: short texts.
func TestArray(t *testing.T) {
	for _, text := range texts() {
		wantArray(t, text)
	}
}

// P17.1 Array, P17.3: all texts of few bytes.
func TestArrayAll(t *testing.T) {
	for _, text := range slices.Concat(all([]byte{0, 255}, 9), all([]byte("abc"), 6), all([]byte{0, 1, 254, 255}, 4)) {
		wantArray(t, text)
	}
}

// P17.1 Array, P17.3: texts of each length up to some hundred bytes, so that the lengths next to each power of two are among them.
func TestArrayLengths(t *testing.T) {
	for n := range 140 {
		wantArray(t, alone(97, n))
		wantArray(t, turns(255, 0, n))
		wantArray(t, few(n))
		wantArray(t, words(n))
	}
}

// P17.1 Array, P17.3: the longest texts that there are.
func TestArrayLongest(t *testing.T) {
	t.Parallel()
	for _, text := range longTexts() {
		wantArray(t, text)
	}
}

// P17.1 Array: texts whose order is told without sorting.
func TestArrayKnown(t *testing.T) {
	for _, n := range []int{0, 1, 2, 300, longest} {
		backward := make([]int, n+1)
		for i := range backward {
			backward[i] = n - i
		}
		for _, c := range []byte{0, 97, 255} {
			if got := array(t, alone(c, n)); !slices.Equal(got, backward) {
				t.Errorf("Array of %d times %d = %s", n, c, brief(got))
			}
		}
	}
	forward := []int{256}
	for i := range 256 {
		forward = append(forward, i)
	}
	if got := array(t, rising(256)); !slices.Equal(got, forward) {
		t.Errorf("Array of all bytes, rising = %s", brief(got))
	}
}

// P17.1 Array: ErrLong of more than MaxText bytes, and no list.
func TestArrayLong(t *testing.T) {
	for _, text := range tooLong() {
		if l, e := suffix.Array(text); len(l) != 0 || e != api.ErrLong {
			t.Errorf("Array(%s) = %s, %d, want ErrLong", short(text), brief(l), e)
		}
	}
	if api.ErrLong != 4 || api.ErrArg != 2 || api.MaxText != longest {
		t.Error("the errors, or the limit, are others than the document's")
	}
}

// permutations answers all rows that have each of 0 to n - 1 once.
func permutations(n int) [][]int {
	if n == 0 {
		return [][]int{nil}
	}
	var l [][]int
	for _, row := range permutations(n - 1) {
		for at := range n {
			l = append(l, slices.Insert(slices.Clone(row), at, n-1))
		}
	}
	return l
}

// shuffled answers a fixed row that has each of 0 to n - 1 once.
func shuffled(n int) []int {
	l := make([]int, n)
	x := uint64(88172645463325252)
	for i := range l {
		x ^= x << 13
		x ^= x >> 7
		x ^= x << 17
		j := int(x>>1) % (i + 1)
		l[i] = l[j]
		l[j] = i
	}
	return l
}

// wantInverse checks Inverse of a row that has each number once.
func wantInverse(t *testing.T, sa []int) {
	t.Helper()
	at, e := suffix.Inverse(sa)
	if e != api.OK || len(at) != len(sa) {
		t.Fatalf("Inverse(%s) = %s, %d", brief(sa), brief(at), e)
	}
	for place, n := range sa {
		if at[n] != place {
			t.Fatalf("Inverse(%s): %d stands at %d, not at %d", brief(sa), n, place, at[n])
		}
	}
	if again, e := suffix.Inverse(at); e != api.OK || !slices.Equal(again, sa) {
		t.Errorf("Inverse of the Inverse of %s = %s, %d", brief(sa), brief(again), e)
	}
}

// wantNoInverse checks that Inverse refuses a row.
func wantNoInverse(t *testing.T, sa []int) {
	t.Helper()
	before := slices.Clone(sa)
	if at, e := suffix.Inverse(sa); len(at) != 0 || e != api.ErrArg {
		t.Errorf("Inverse(%s) = %s, %d, want ErrArg", brief(sa), brief(at), e)
	}
	if !slices.Equal(sa, before) {
		t.Errorf("Inverse changed %s to %s", brief(before), brief(sa))
	}
}

// P17.2 Inverse: rows that have each number once, also those of more numbers than a text has ends.
func TestInverse(t *testing.T) {
	for n := range 7 {
		for _, row := range permutations(n) {
			wantInverse(t, row)
		}
	}
	for _, n := range []int{1, 2, 100, 300, longest, longest + 1, longest + 2, 1 << 16} {
		wantInverse(t, shuffled(n))
	}
	if at, e := suffix.Inverse([]int{2, 0, 3, 1}); e != api.OK || !slices.Equal(at, []int{1, 3, 0, 2}) {
		t.Error(at, e)
	}
}

// P17.2 Inverse: rows that Array answers.
func TestInverseOfArray(t *testing.T) {
	for _, text := range append(texts(), longTexts()...) {
		wantInverse(t, array(t, text))
	}
}

// P17.2 Inverse: all rows of few numbers, each of them once or not.
func TestInverseAll(t *testing.T) {
	rows := [][]int{nil}
	for n := 1; n <= 5; n++ {
		var next [][]int
		for _, row := range rows {
			for v := -1; v <= 5; v++ {
				next = append(next, slices.Concat(row, []int{v}))
			}
		}
		rows = next
		right := permutations(n)
		taken := 0
		for _, row := range rows {
			if _, e := suffix.Inverse(row); e == api.OK {
				taken++
			} else {
				wantNoInverse(t, row)
			}
		}
		if taken != len(right) { // those of permutations are taken, as TestInverse tells
			t.Errorf("%d rows of %d numbers are taken, want %d", taken, n, len(right))
		}
	}
}

// P17.2 Inverse: ErrArg of a row that has a number twice, one below 0, or one that is the length or more.
func TestInverseRefused(t *testing.T) {
	for _, n := range []int{1, 2, 7, 300, longest + 1} {
		for _, at := range []int{0, n / 2, n - 1} {
			for _, wrong := range append(far(), -1, -n, n, n+1) {
				if wrong >= 0 && wrong < n {
					continue
				}
				row := shuffled(n)
				row[at] = wrong
				wantNoInverse(t, row)
			}
			if n > 1 {
				row := shuffled(n)
				row[at] = row[(at+1)%n]
				wantNoInverse(t, row)
			}
		}
		if n > 1 {
			wantNoInverse(t, make([]int, n))
			wantNoInverse(t, append(shuffled(n), 0))
		}
	}
}

// wantCheck checks that Check answers that, and changes neither the text nor the row.
func wantCheck(t *testing.T, text []byte, sa []int, want bool) {
	t.Helper()
	sameText, sameRow := bytes.Clone(text), slices.Clone(sa)
	if got := suffix.Check(text, sa); got != want {
		t.Errorf("Check(%s, %s) = %t, want %t", short(text), brief(sa), got, want)
	}
	if !bytes.Equal(text, sameText) || !slices.Equal(sa, sameRow) {
		t.Errorf("Check(%s, %s) changed what it was given", short(text), brief(sa))
	}
}

// P17.2 Check: what Array answers, and what an order of the ends themselves is.
func TestCheck(t *testing.T) {
	for _, text := range append(texts(), longTexts()...) {
		wantCheck(t, text, array(t, text), true)
	}
	for _, text := range append(texts(), all([]byte("ab"), 8)...) {
		wantCheck(t, text, ordered(text), true)
	}
}

// P17.2 Check: of all rows of few numbers the one that is the order of ends.
func TestCheckAll(t *testing.T) {
	for _, text := range all([]byte{0, 97, 255}, 4) {
		for n := range 7 {
			for _, row := range permutations(n) {
				wantCheck(t, text, row, slices.Equal(row, ordered(text)))
			}
		}
	}
}

// P17.2 Check: two of a row exchanged, next to one another or far apart.
func TestCheckExchanged(t *testing.T) {
	for _, text := range append(texts(), alone(97, 500)) {
		sa := array(t, text)
		for _, k := range []int{1, 2, len(sa) / 2, len(sa) - 1} {
			for i := 0; k > 0 && i+k < len(sa); i += 1 + len(sa)/20 {
				row := slices.Clone(sa)
				row[i], row[i+k] = row[i+k], row[i]
				wantCheck(t, text, row, false)
			}
		}
	}
	for _, text := range longTexts() {
		for _, i := range []int{0, len(text) / 2, len(text) - 1} {
			row := array(t, text)
			row[i], row[i+1] = row[i+1], row[i]
			wantCheck(t, text, row, false)
		}
	}
}

// P17.2 Check: one number too many or too few, or another one.
func TestCheckLength(t *testing.T) {
	for _, text := range texts() {
		sa := array(t, text)
		wantCheck(t, text, nil, false)
		wantCheck(t, text, []int{}, false)
		wantCheck(t, text, sa[1:], false)
		wantCheck(t, text, sa[:len(sa)-1], false)
		for _, more := range append(far(), -1, 0, len(text), len(text)+1) {
			wantCheck(t, text, slices.Concat(sa, []int{more}), false)
			wantCheck(t, text, slices.Concat([]int{more}, sa), false)
		}
		for _, wrong := range append(far(), -1, len(text)+1) {
			for _, at := range []int{0, len(text) / 2, len(text)} {
				row := slices.Clone(sa)
				row[at] = wrong
				wantCheck(t, text, row, false)
			}
		}
		wantCheck(t, text, make([]int, len(sa)), len(text) == 0)
	}
}

// P17.2 Check: a row of another text.
func TestCheckOther(t *testing.T) {
	for _, text := range texts() {
		want := ordered(text)
		for _, other := range texts() {
			sa := array(t, other)
			wantCheck(t, text, sa, slices.Equal(sa, want))
		}
	}
	wantCheck(t, []byte("banana"), array(t, []byte("bandana")), false)
	wantCheck(t, []byte("banana"), array(t, []byte("ananab")), false)
	wantCheck(t, []byte("banana"), array(t, []byte("canana")), true) // another text whose ends have the same order
}

// P17.2 Check: a text that is too long has no Array.
func TestCheckLong(t *testing.T) {
	t.Parallel()
	for _, text := range tooLong() {
		wantCheck(t, text, nil, false)
		wantCheck(t, text, array(t, text[:longest]), false)
		if len(text) <= longest+2 {
			wantCheck(t, text, ordered(text), false)
		}
	}
}

// P17.3: each end is ahead of the next one, and of all that come behind.
func TestAhead(t *testing.T) {
	for _, text := range texts() {
		at, e := suffix.Inverse(array(t, text))
		if e != api.OK {
			t.Fatalf("%s: %d", short(text), e)
		}
		for i := range at {
			for j := range at {
				wantLess(t, text, i, j, at[i] < at[j])
			}
		}
	}
}

// R3: a text stays as it is, and so does what stands behind its end; neither counts in what is answered.
func TestTextGiven(t *testing.T) {
	for _, n := range []int{0, 1, 40, 299} {
		room := few(300)
		sa := array(t, room[:n])
		suffix.Less(room[:n], 0, n)
		suffix.Check(room[:n], sa)
		if !bytes.Equal(room, few(300)) {
			t.Errorf("a text of %d bytes was changed, or what is behind", n)
		}
		if !slices.Equal(sa, array(t, few(300)[:n:n])) {
			t.Errorf("the Array of %d bytes hangs on what is behind them", n)
		}
		want := slices.Clone(sa)
		clear(room)
		if !slices.Equal(sa, want) {
			t.Errorf("the Array of %d bytes shares memory with them", n)
		}
	}
	for _, text := range longTexts() {
		before := bytes.Clone(text)
		array(t, text)
		if !bytes.Equal(text, before) {
			t.Errorf("Array changed %s", short(before))
		}
	}
}

// R3: what Array answers is the caller's own.
func TestArrayAnswered(t *testing.T) {
	for _, text := range texts() {
		first, second := array(t, text), array(t, text)
		clear(first[:cap(first)])
		if want := ordered(text); !slices.Equal(second, want) || !slices.Equal(array(t, text), want) {
			t.Errorf("two Arrays of %s share memory", short(text))
		}
	}
}

// R3: Inverse shares nothing with the row that it was given, nor with what stands behind its end.
func TestInverseGiven(t *testing.T) {
	for _, n := range []int{0, 1, 2, 300} {
		room := append(shuffled(n), 0, 5, -1)
		at, e := suffix.Inverse(room[:n])
		if e != api.OK || !slices.Equal(room, append(shuffled(n), 0, 5, -1)) {
			t.Errorf("a row of %d numbers was changed, or what is behind: %d", n, e)
		}
		want := slices.Clone(at)
		clear(room)
		if !slices.Equal(at, want) {
			t.Errorf("the Inverse of %d numbers shares memory with them", n)
		}
		row := shuffled(n)
		first, _ := suffix.Inverse(row)
		second, _ := suffix.Inverse(row)
		clear(first[:cap(first)])
		if !slices.Equal(second, want) || !slices.Equal(row, shuffled(n)) {
			t.Errorf("two Inverses of %d numbers share memory", n)
		}
	}
}

// R3: nil and empty lists are the same.
func TestEmptyLists(t *testing.T) {
	for _, text := range [][]byte{nil, {}, scattered(5)[:0]} {
		if sa := array(t, text); !slices.Equal(sa, []int{0}) {
			t.Errorf("Array of no bytes = %v", sa)
		}
		wantCheck(t, text, []int{0}, true)
		for _, row := range [][]int{nil, {}, shuffled(5)[:0]} {
			wantCheck(t, text, row, false)
			if at, e := suffix.Inverse(row); len(at) != 0 || e != api.OK {
				t.Errorf("Inverse of no numbers = %v, %d", at, e)
			}
		}
	}
}

// R8: the same call answers the same.
func TestAgain(t *testing.T) {
	for _, text := range texts() {
		want := array(t, text)
		for range 3 {
			if got := array(t, text); !slices.Equal(got, want) {
				t.Errorf("Array(%s) is another one", short(text))
			}
		}
	}
}

// The chapter's example.
func TestExample(t *testing.T) {
	sa, e := suffix.Array([]byte("banana"))
	if e != api.OK || !slices.Equal(sa, []int{6, 5, 3, 1, 0, 4, 2}) {
		t.Errorf("Array of banana = %v, %d", sa, e)
	}
	if at, e := suffix.Inverse(sa); e != api.OK || !slices.Equal(at, []int{4, 3, 6, 2, 5, 1, 0}) {
		t.Errorf("Inverse of banana's = %v, %d", at, e)
	}
	if !suffix.Check([]byte("banana"), []int{6, 5, 3, 1, 0, 4, 2}) {
		t.Error("Check of banana's = false")
	}
}
