package stats_test

import (
	"bytes"
	"fmt"
	"math"
	"math/big"
	"slices"
	"testing"

	"haystack/api"
	"haystack/stats"
)

// The document's numbers, written out.
const (
	symbols   = 256
	longest   = 1 << 13 // MaxText
	mostOfOne = 1 << 16 // the greatest count that Entropy takes
	greatest  = 1 << 30 // the greatest number that has a Log
	one       = 65536   // a logarithm of 1
)

// mixer answers a function that tells a fixed row of mixed numbers.
func mixer() func() uint64 {
	x := uint64(88172645463325252)
	return func() uint64 {
		x ^= x << 13
		x ^= x >> 7
		x ^= x << 17
		return x >> 20
	}
}

// scattered answers n bytes of a fixed row that has all of them.
func scattered(n int) []byte {
	text, next := make([]byte, n), mixer()
	for i := range text {
		text[i] = byte(next())
	}
	return text
}

// few answers n bytes of a fixed row that has few of them, 0 and 255 among them.
func few(n int) []byte {
	text := scattered(n)
	for i, c := range text {
		text[i] = "aaaaaab\xff\x00"[c%9]
	}
	return text
}

// alone answers n times one byte.
func alone(c byte, n int) []byte {
	return bytes.Repeat([]byte{c}, n)
}

// turns answers n bytes, a and b by turns.
func turns(a byte, b byte, n int) []byte {
	return bytes.Repeat([]byte{a, b}, n/2+1)[:n]
}

// rising answers n bytes, each of them the one that comes behind the one ahead; 0 comes behind 255.
func rising(n int) []byte {
	text := make([]byte, n)
	for i := range text {
		text[i] = byte(i)
	}
	return text
}

// texts are texts of at most MaxText bytes.
func texts() [][]byte {
	return [][]byte{
		nil, {}, {0}, {255}, {97}, {0, 0}, {255, 255}, {0, 255}, {255, 0}, {97, 98}, {98, 97}, {97, 97, 98},
		[]byte("banana"), []byte("abracadabra"), []byte("mississippi"), []byte("tobeornottobe"), []byte("aabb"), []byte("abababab"),
		alone(0, 100), alone(255, 101), alone(97, 300),
		turns(0, 255, 90), turns(255, 0, 91), turns(97, 98, 300),
		rising(256), rising(257), rising(300), rising(512), few(40), few(300), scattered(17), scattered(300), scattered(700),
		slices.Concat(alone(0, 63), []byte{255}, alone(0, 64)), slices.Concat(rising(256), scattered(256), rising(256)),
		alone(0, longest), alone(255, longest), turns(255, 0, longest), rising(longest), few(longest), scattered(longest), scattered(longest - 1),
	}
}

// tooLong are texts of more than MaxText bytes.
func tooLong() [][]byte {
	return [][]byte{scattered(longest + 1), few(longest + 1), alone(255, longest+1), turns(97, 98, longest+1), rising(longest + 2), scattered(2 * longest), few(1 << 16), scattered(1 << 18)}
}

// far are numbers that are no counts, and have no Log.
func far() []int {
	return []int{math.MinInt, math.MinInt + 1, math.MinInt32, -1 << 32, -1 << 30, -mostOfOne, -256, -2, -1, greatest + 1, greatest + 2, greatest * 2, math.MaxInt32, 1 << 32, 1<<32 + 1, 1<<32 + 8, 1 << 62, math.MaxInt - 1, math.MaxInt}
}

// empty answers n counts of 0.
func empty(n int) []int {
	return make([]int, n)
}

// of answers 256 counts: the first ones those that are given, all others 0.
func of(first ...int) []int {
	return append(first, empty(symbols-len(first))...)
}

// with answers the counts, but n at a place.
func with(counts []int, at int, n int) []int {
	l := slices.Clone(counts)
	l[at] = n
	return l
}

// mixed answers 256 counts of a fixed row, each below a number.
func mixed(below int) []int {
	l, next := empty(symbols), mixer()
	for i := range l {
		l[i] = int(next() % uint64(below))
	}
	return l
}

// lists are lists of counts that Entropy takes.
func lists() [][]int {
	l := [][]int{
		empty(symbols), of(1), of(2), of(8), of(mostOfOne), with(empty(symbols), 255, 1), with(empty(symbols), 255, mostOfOne), with(empty(symbols), 97, 1000),
		of(4, 4), of(1, 1), of(1, 2), of(2, 1), of(1, 1, 1), of(3, 1), of(5, 2, 2, 1, 1), of(1, 1, 2, 4, 8, 16), with(of(7), 255, 7), with(of(1), 255, 2), of(0, 5, 0, 3),
		of(mostOfOne, 1), of(1, mostOfOne), of(mostOfOne, mostOfOne), of(mostOfOne-1, 1), of(mostOfOne-1, mostOfOne), of(mostOfOne, mostOfOne, mostOfOne), of(mostOfOne, 1, 1, 1),
		slices.Repeat([]int{1}, symbols), slices.Repeat([]int{3}, symbols), slices.Repeat([]int{mostOfOne}, symbols), slices.Repeat([]int{mostOfOne - 1}, symbols),
		with(slices.Repeat([]int{mostOfOne}, symbols), 255, 0), with(slices.Repeat([]int{1}, symbols), 0, mostOfOne), slices.Repeat([]int{0, 1}, symbols/2),
	}
	for _, below := range []int{2, 3, 5, 30, 1000, mostOfOne + 1} {
		l = append(l, mixed(below))
	}
	return l
}

// wrongLists are lists of counts that Entropy does not take: too few or too many, one below 0, one too great.
func wrongLists() [][]int {
	l := [][]int{nil, {}, {1}, {4, 4}, slices.Repeat([]int{1}, 255), slices.Repeat([]int{1}, 257), mixed(9)[:255], append(mixed(9), 0), append(mixed(9), 1), slices.Repeat([]int{1}, 512), empty(255), empty(257), slices.Repeat([]int{5}, 65536)}
	for _, n := range append(far(), mostOfOne+1, 2*mostOfOne) {
		l = append(l, with(slices.Repeat([]int{3}, symbols), 0, n), with(mixed(9), 97, n), with(of(4, 4), 255, n), slices.Repeat([]int{n}, symbols))
	}
	return append(l, with(of(1, mostOfOne), 200, -mostOfOne), with(of(5), 1, -5))
}

// short tells a text in few words.
func short(text []byte) string {
	return fmt.Sprintf("%d bytes %q..", len(text), text[:min(12, len(text))])
}

// brief tells a list in few words.
func brief(l []int) string {
	return fmt.Sprintf("%d counts %v..", len(l), l[:min(8, len(l))])
}

// bigOf answers n as a number without a limit.
func bigOf(n int) *big.Int {
	return big.NewInt(int64(n))
}

// logByWords reckons Log by the chapter's words, in numbers without a limit.
func logByWords(x int) int {
	if x < 1 || x > greatest {
		return 0
	}
	n := 0
	for y := x; y > 1; y /= 2 {
		n++
	}
	m := new(big.Int).Mul(bigOf(x), new(big.Int).Exp(bigOf(2), bigOf(31-n), nil))
	bits := 0
	for place := 15; place >= 0; place-- {
		m.Mul(m, m).Div(m, bigOf(1<<31))
		if m.Cmp(bigOf(1<<32)) >= 0 {
			bits += 1 << place
			m.Div(m, bigOf(2))
		}
	}
	return n*65536 + bits
}

// entropyByWords reckons Entropy by the chapter's words, in numbers without a limit.
func entropyByWords(counts []int) int {
	if len(counts) != symbols {
		return 0
	}
	n := 0
	for _, c := range counts {
		if c < 0 || c > mostOfOne {
			return 0
		}
		n += c
	}
	sum := new(big.Int)
	for _, c := range counts {
		if c != 0 {
			sum.Add(sum, new(big.Int).Mul(bigOf(c), bigOf(max(0, logByWords(n)-logByWords(c)))))
		}
	}
	up, left := new(big.Int).DivMod(sum, bigOf(one), new(big.Int))
	if left.Sign() > 0 {
		up.Add(up, bigOf(1))
	}
	return int(up.Int64())
}

// countsByWords answers of each symbol how often it stands in the text, sought symbol by symbol.
func countsByWords(text []byte) []int {
	l := empty(symbols)
	for c := range l {
		l[c] = bytes.Count(text, []byte{byte(c)})
	}
	return l
}

// secondByWords reckons Second by the chapter's words: what follows each symbol is gathered as a text of its own.
func secondByWords(text []byte) int {
	if len(text) > longest {
		return 0
	}
	sum := 0
	for c := range symbols {
		var followers []byte
		for i, x := range text {
			if int(x) == c && i+1 < len(text) {
				followers = append(followers, text[i+1])
			}
		}
		sum += entropyByWords(countsByWords(followers))
	}
	return sum
}

// wantCounts checks Counts of a text, and that the text stays.
func wantCounts(t *testing.T, text []byte) {
	t.Helper()
	before := bytes.Clone(text)
	if got, want := stats.Counts(text), countsByWords(text); !slices.Equal(got, want) {
		t.Errorf("Counts(%s) = %v, want %v", short(text), got, want)
	}
	if !bytes.Equal(text, before) {
		t.Errorf("Counts changed %s", short(before))
	}
}

// wantDistinct checks Distinct of a list, and that the list stays.
func wantDistinct(t *testing.T, counts []int, want int) {
	t.Helper()
	before := slices.Clone(counts)
	if got := stats.Distinct(counts); got != want {
		t.Errorf("Distinct(%s) = %d, want %d", brief(counts), got, want)
	}
	if !slices.Equal(counts, before) {
		t.Errorf("Distinct changed %s", brief(before))
	}
}

// wantLog checks Log of a number.
func wantLog(t *testing.T, x int, want int) {
	t.Helper()
	if got := stats.Log(x); got != want {
		t.Errorf("Log(%d) = %d, want %d", x, got, want)
	}
}

// wantEntropy checks Entropy of a list, and that the list stays.
func wantEntropy(t *testing.T, counts []int, want int) {
	t.Helper()
	before := slices.Clone(counts)
	if got := stats.Entropy(counts); got != want {
		t.Errorf("Entropy(%s) = %d, want %d", brief(counts), got, want)
	}
	if !slices.Equal(counts, before) {
		t.Errorf("Entropy changed %s", brief(before))
	}
}

// wantSecond checks Second of a text, and that the text stays.
func wantSecond(t *testing.T, text []byte, want int) {
	t.Helper()
	before := bytes.Clone(text)
	if got := stats.Second(text); got != want {
		t.Errorf("Second(%s) = %d, want %d", short(text), got, want)
	}
	if !bytes.Equal(text, before) {
		t.Errorf("Second changed %s", short(before))
	}
}

// P19.1 Counts: texts of each kind, and those that are longer than an index takes.
func TestCounts(t *testing.T) {
	for _, text := range slices.Concat(texts(), tooLong()) {
		wantCounts(t, text)
	}
	for n := range 140 {
		wantCounts(t, few(n))
		wantCounts(t, scattered(n))
	}
}

// P19.1 Counts: each byte counts as a number from 0 to 255; no text has none of them.
func TestCountsBytes(t *testing.T) {
	for c := range symbols {
		if got := stats.Counts(alone(byte(c), c+1)); !slices.Equal(got, with(empty(symbols), c, c+1)) {
			t.Errorf("Counts of %d times byte %d = %v", c+1, c, got)
		}
	}
	for _, text := range [][]byte{nil, {}, scattered(9)[:0]} {
		if got := stats.Counts(text); !slices.Equal(got, empty(symbols)) {
			t.Errorf("Counts of no byte = %v", got)
		}
	}
	if got := stats.Counts(alone(97, 1<<17)); !slices.Equal(got, with(empty(symbols), 97, 1<<17)) {
		t.Errorf("Counts of 2^17 times a = %v", got)
	}
	if got := stats.Counts(rising(5 * 256)); !slices.Equal(got, slices.Repeat([]int{5}, symbols)) {
		t.Errorf("Counts of five times each byte = %v", got)
	}
}

// P19.1 Counts: what is answered is new memory, and what stands behind a text's end is nobody's.
func TestCountsOwn(t *testing.T) {
	room := []byte("banana, abracadabra")
	text := room[:6]
	first := stats.Counts(text)
	wanted := slices.Clone(first)
	clear(first[:cap(first)])
	second := stats.Counts(text)
	if !slices.Equal(second, wanted) {
		t.Errorf("Counts behind a change of its answer = %v, want %v", second, wanted)
	}
	copy(text, "zzzzzz")
	if !slices.Equal(second, wanted) {
		t.Error("an answer of Counts changed with the text")
	}
	if string(room[6:]) != ", abracadabra" {
		t.Errorf("behind the text stands %q", room[6:])
	}
	_ = append(second, 7)
	if got := stats.Counts([]byte("banana")); len(got) != symbols || got['a'] != 3 || got['n'] != 2 || got['b'] != 1 {
		t.Errorf("Counts of banana = %v", got)
	}
}

// P19.1 Distinct: none, one, some, all of 256 above 0; numbers below 0 do not count, however great or small they are.
func TestDistinct(t *testing.T) {
	wantDistinct(t, empty(symbols), 0)
	wantDistinct(t, slices.Repeat([]int{-1}, symbols), 0)
	wantDistinct(t, slices.Repeat([]int{math.MinInt}, symbols), 0)
	wantDistinct(t, slices.Repeat([]int{1}, symbols), 256)
	wantDistinct(t, slices.Repeat([]int{math.MaxInt}, symbols), 256)
	wantDistinct(t, slices.Repeat([]int{5, -5}, symbols/2), 128)
	wantDistinct(t, slices.Repeat([]int{0, 1, -1, 2}, symbols/4), 128)
	for at := range symbols {
		wantDistinct(t, with(empty(symbols), at, at+1), 1)
		wantDistinct(t, with(slices.Repeat([]int{2}, symbols), at, 0), 255)
		wantDistinct(t, with(slices.Repeat([]int{2}, symbols), at, -3), 255)
		wantDistinct(t, of(slices.Repeat([]int{1}, at)...), at)
		wantDistinct(t, stats.Counts(rising(at)), at)
	}
	for _, n := range far() {
		want := 1
		if n > 0 {
			want = 2
		}
		wantDistinct(t, with(of(0, 9), 255, n), want)
	}
	wantDistinct(t, stats.Counts([]byte("abracadabra")), 5)
}

// P19.1 Distinct: 0 of counts that are not 256.
func TestDistinctOthers(t *testing.T) {
	for _, n := range []int{0, 1, 2, 128, 254, 255, 257, 258, 512, 65536} {
		wantDistinct(t, slices.Repeat([]int{1}, n), 0)
		wantDistinct(t, empty(n), 0)
	}
	wantDistinct(t, nil, 0)
	room := slices.Repeat([]int{1}, 300)
	wantDistinct(t, room[:255], 0)
	wantDistinct(t, room[:256], 256)
	wantDistinct(t, room[:256:256], 256)
	wantDistinct(t, room[:257], 0)
}

// P19.2 Log: the sixteen steps, of each small number, of each power of 2 and its neighbours, and of numbers between.
func TestLog(t *testing.T) {
	for x := 1; x <= 9000; x++ {
		wantLog(t, x, logByWords(x))
	}
	for n := range 31 {
		wantLog(t, 1<<n, 65536*n)
		for _, x := range []int{1<<n - 1, 1<<n + 1, 1<<n + 1<<n/2, 1<<n + 1<<n/3} {
			wantLog(t, x, logByWords(x))
		}
	}
	next := mixer()
	for range 3000 {
		x := 1 + int(next()%greatest)
		wantLog(t, x, logByWords(x))
	}
}

// P19.2 Log: numbers of which another rounding (up, to the nearest, or of fewer bits) has another logarithm, and one whose square is just 2.
func TestLogRoundedDown(t *testing.T) {
	for _, x := range []int{
		536922019, 536961772, 591017701, 785212387, // 30 bits behind the point
		545496612, 548661671, 771766985, 1023466440, // halves rounded up
		537024247, 537029927, 592695332, 837417996, // squares to the nearest
		536887947, 536899304, 562065144, 664113345, // squares rounded up
	} {
		wantLog(t, x, logByWords(x))
	}
	wantLog(t, 759250125, 29*one+one/2)
}

// P19.2 Log: numbers that were reckoned apart from the program.
func TestLogKnown(t *testing.T) {
	for _, known := range [][2]int{
		{1, 0}, {2, 65536}, {3, 103872}, {4, 131072}, {5, 152169}, {6, 169408}, {7, 183982}, {8, 196608}, {9, 207744}, {10, 217705}, {15, 256041},
		{255, 523917}, {256, 524288}, {257, 524656}, {1000, 653117}, {8191, 851956}, {8192, 851968}, {8193, 851979}, {65535, 1048574}, {65536, 1048576}, {65537, 1048577}, {1000000, 1306235},
		{715827882, 1927743}, {1 << 29, 1900544}, {1<<29 + 1, 1900544}, {3 << 28, 1938880}, {1<<30 - 1<<14, 1966078}, {1<<30 - 2, 1966079}, {1<<30 - 1, 1966079}, {1 << 30, 1966080},
	} {
		wantLog(t, known[0], known[1])
	}
}

// P19.2 Log: 0, unless x is from 1 to 2^30.
func TestLogOutside(t *testing.T) {
	wantLog(t, 0, 0)
	for _, x := range far() {
		wantLog(t, x, 0)
	}
	for n := 31; n < 63; n++ {
		wantLog(t, 1<<n, 0)
		wantLog(t, 1<<n-1, 0)
		wantLog(t, -1<<n, 0)
	}
	for x := greatest + 1; x < greatest+300; x++ {
		wantLog(t, x, 0)
		wantLog(t, -x, 0)
		wantLog(t, -(x - greatest), 0)
	}
}

// P19.2 Log: it is the logarithm to the base 2, less than two 65536ths below it.
func TestLogNear(t *testing.T) {
	next := mixer()
	for i := range 20000 {
		x := 1 + i
		if i%2 == 1 {
			x = 1 + int(next()%greatest)
		}
		if below := math.Log2(float64(x))*one - float64(stats.Log(x)); below < -0.001 || below > 2 {
			t.Errorf("Log(%d) = %d is %f too low", x, stats.Log(x), below)
		}
	}
}

// P19.4: Log rises.
func TestLogRises(t *testing.T) {
	for x := 1; x < 1<<17; x++ {
		if a, b := stats.Log(x), stats.Log(x+1); a > b {
			t.Fatalf("Log(%d) = %d, Log(%d) = %d", x, a, x+1, b)
		}
	}
	for n := range 30 { // about each power of 2, and along steps up to the next one
		last := 0
		for _, x := range []int{max(1, 1<<n-1), 1 << n, 1<<n + 1<<n/16, 1<<n + 1<<n/5, 1<<n + 1<<n/4, 1<<n + 1<<n/3, 1<<n + 1<<n/2, 2<<n - 1 - 1<<n/64, 2<<n - 1, 2 << n} {
			if log := stats.Log(x); log < last {
				t.Errorf("Log(%d) = %d, below %d of a lesser number", x, log, last)
			} else {
				last = log
			}
		}
	}
	for x := greatest - 20000; x < greatest; x++ {
		if stats.Log(x) > stats.Log(x+1) {
			t.Fatalf("Log falls behind %d", x)
		}
	}
	if stats.Log(1) >= stats.Log(2) || stats.Log(2) >= stats.Log(3) || stats.Log(8191) >= stats.Log(8192) {
		t.Error("Log does not rise")
	}
}

// P19.4: doubles add one.
func TestLogDoubles(t *testing.T) {
	for x := 1; x <= 3000; x++ {
		for y := x; 2*y <= greatest; y *= 2 {
			if stats.Log(2*y) != stats.Log(y)+one {
				t.Fatalf("Log(%d) = %d, Log(%d) = %d", y, stats.Log(y), 2*y, stats.Log(2*y))
			}
		}
	}
	next := mixer()
	for range 3000 {
		x := 1 + int(next()%(greatest/2))
		if stats.Log(2*x) != stats.Log(x)+one {
			t.Errorf("Log(%d) = %d, Log(%d) = %d", x, stats.Log(x), 2*x, stats.Log(2*x))
		}
	}
	wantLog(t, greatest/2, 29*one)
	wantLog(t, greatest, 30*one)
	wantLog(t, 2*greatest, 0)
}

// P19.3 Entropy: the chapter's sum, rounded up.
func TestEntropy(t *testing.T) {
	for _, counts := range lists() {
		wantEntropy(t, counts, entropyByWords(counts))
	}
	for a := range 40 {
		for b := range 40 {
			counts := with(of(a), 255, b)
			wantEntropy(t, counts, entropyByWords(counts))
		}
	}
	for _, text := range append(texts(), tooLong()...) {
		counts := countsByWords(text)
		wantEntropy(t, counts, entropyByWords(counts))
	}
}

// P19.3 Entropy: sums that were reckoned apart from the program; of a whole number of bits nothing is added, and the least part of a bit is one.
func TestEntropyKnown(t *testing.T) {
	wantEntropy(t, of(4, 4), 8)
	wantEntropy(t, with(of(4), 255, 4), 8)
	wantEntropy(t, slices.Repeat([]int{1}, symbols), 2048)
	wantEntropy(t, slices.Repeat([]int{mostOfOne}, symbols), 1<<27)
	wantEntropy(t, of(1, 2), 3)           // 2.75 bits
	wantEntropy(t, of(1, 1, 1), 5)        // 4.75 bits
	wantEntropy(t, of(3, 1), 4)           // 3.25 bits
	wantEntropy(t, of(1, 1, 2), 6)        // just 6 bits
	wantEntropy(t, of(5, 2, 2, 1, 1), 23) // 22.44 bits
	wantEntropy(t, of(mostOfOne, 1), 18)  // a 65536th more than 17 bits
	wantEntropy(t, of(mostOfOne, mostOfOne), 2*mostOfOne)
}

// P19.4: Entropy is 0 of one symbol alone, and of none.
func TestEntropyAlone(t *testing.T) {
	wantEntropy(t, empty(symbols), 0)
	for at := range symbols {
		for _, n := range []int{1, 2, 3, 7, 255, 256, 1000, 8191, 8192, 65535, mostOfOne} {
			wantEntropy(t, with(empty(symbols), at, n), 0)
		}
		wantEntropy(t, stats.Counts(alone(byte(at), at+3)), 0)
	}
	for n := range mostOfOne {
		if got := stats.Entropy(with(empty(symbols), n%symbols, n)); got != 0 {
			t.Fatalf("Entropy of one symbol %d times = %d", n, got)
		}
	}
}

// P19.3 Entropy: 0 of counts that are not 256, and of one that is below 0 or above 2^16, wherever it stands.
func TestEntropyWrong(t *testing.T) {
	for _, counts := range wrongLists() {
		wantEntropy(t, counts, 0)
	}
	good := slices.Repeat([]int{3}, symbols)
	for at := range symbols {
		wantEntropy(t, with(good, at, -1), 0)
		wantEntropy(t, with(good, at, mostOfOne+1), 0)
		wantEntropy(t, with(good, at, mostOfOne), entropyByWords(with(good, at, mostOfOne)))
		wantEntropy(t, with(good, at, 0), entropyByWords(with(good, at, 0)))
	}
	room := slices.Repeat([]int{1}, 300)
	wantEntropy(t, room[:255], 0)
	wantEntropy(t, room[:256], 2048)
	wantEntropy(t, room[:257], 0)
	if stats.Entropy(with(good, 9, mostOfOne)) == 0 {
		t.Error("a count of 2^16 is refused")
	}
}

// P19.3 Second: the Entropies of what follows each symbol.
func TestSecond(t *testing.T) {
	for _, text := range texts() {
		wantSecond(t, text, secondByWords(text))
	}
	for n := range 70 {
		wantSecond(t, few(n), secondByWords(few(n)))
	}
	for _, text := range [][]byte{nil, {}, {0}, {255}, {0, 0}, {0, 255}, {255, 0}, alone(0, 100), alone(255, longest), turns(0, 255, 91), turns(97, 98, longest), rising(256), rising(longest), []byte("banana")} {
		wantSecond(t, text, 0)
	}
}

// P19.3 Second: sums that were reckoned apart from the program; each symbol's is rounded up by itself, the first byte follows none, and none follows the last.
func TestSecondKnown(t *testing.T) {
	wantSecond(t, []byte("aab"), 2)
	wantSecond(t, []byte("aba"), 0)
	wantSecond(t, []byte("baa"), 0)
	wantSecond(t, []byte("aabb"), 2)
	wantSecond(t, []byte("abab"), 0)
	wantSecond(t, []byte("abracadabra"), 6)
	wantSecond(t, []byte("mississippi"), 9)
	wantSecond(t, []byte("tobeornottobe"), 9)
	wantSecond(t, []byte{0, 0, 255, 255, 0}, 4)
	// Behind each of a to e stand X twice and Y once: five times 2.75 bits are 15, not 14; behind X 23.22 bits, behind Y 8.
	wantSecond(t, []byte("aXaXaYbXbXbYcXcXcYdXdXdYeXeXeY"), 15+24+8)
}

// P19.3 Second: all of MaxText bytes is read, 0 of more.
func TestSecondLong(t *testing.T) {
	for _, text := range tooLong() {
		wantSecond(t, text, 0)
		if cut := text[:longest]; secondByWords(cut) > 0 {
			wantSecond(t, cut, secondByWords(cut))
		}
	}
	text := scattered(longest)
	if stats.Second(text) == 0 || stats.Second(few(longest)) == 0 {
		t.Error("a text of MaxText bytes is refused")
	}
	// The last two bytes count: behind them alone stands another symbol than behind all others.
	wantSecond(t, append(alone(97, longest-1), 98), secondByWords(append(alone(97, longest-1), 98)))
	if stats.Second(append(alone(97, longest-1), 98)) == 0 {
		t.Error("the last byte does not count")
	}
	if api.MaxText != longest || api.Symbols != symbols {
		t.Error("the limits are others than the document's")
	}
}

// P19.3, P19.1: the same call on the same arguments answers the same, whatever was asked between (R4, R8).
func TestAgain(t *testing.T) {
	for _, text := range texts() {
		counts := stats.Counts(text)
		a, b, c := stats.Entropy(counts), stats.Second(text), stats.Distinct(counts)
		stats.Second(scattered(longest))
		stats.Entropy(mixed(9))
		if stats.Entropy(counts) != a || stats.Second(text) != b || stats.Distinct(counts) != c {
			t.Errorf("asked again, %s is told otherwise", short(text))
		}
	}
}

// The chapter's examples.
func TestExamples(t *testing.T) {
	wantLog(t, 8, 196608)
	wantEntropy(t, of(4, 4), 8)
	wantEntropy(t, stats.Counts([]byte("abababab")), 8)
	wantSecond(t, []byte("abababab"), 0)
}
