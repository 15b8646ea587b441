package phase_test

import (
	"bytes"
	"fmt"
	"math"
	"math/big"
	"slices"
	"testing"

	"haystack/phase"
)

// longest is MaxText, written out.
const longest = 1 << 13

// mixer answers a function that tells a fixed row of mixed numbers.
func mixer() func() uint64 {
	x := uint64(88172645463325252)
	return func() uint64 {
		x ^= x << 13
		x ^= x >> 7
		x ^= x << 17
		return x >> 20
	}
}

// scattered answers n bytes of a fixed row that has all of them.
func scattered(n int) []byte {
	text, next := make([]byte, n), mixer()
	for i := range text {
		text[i] = byte(next())
	}
	return text
}

// alike answers n bytes of a fixed row that are nearly all 1 modulo 4, so that long patterns agree here and there.
func alike(n int) []byte {
	text := scattered(n)
	for i, c := range text {
		text[i] = c | 3
		if c%32 != 0 {
			text[i] = c&^3 | 1
		}
	}
	return text
}

// alone answers n times one byte.
func alone(c byte, n int) []byte {
	return bytes.Repeat([]byte{c}, n)
}

// turns answers n bytes, a and b by turns.
func turns(a byte, b byte, n int) []byte {
	return bytes.Repeat([]byte{a, b}, n/2+1)[:n]
}

// rising answers n bytes, each of them the one that comes behind the one ahead; 0 comes behind 255.
func rising(n int) []byte {
	text := make([]byte, n)
	for i := range text {
		text[i] = byte(i)
	}
	return text
}

// moved answers text with by added to each byte; 0 comes behind 255.
func moved(text []byte, by byte) []byte {
	others := bytes.Clone(text)
	for i := range others {
		others[i] += by
	}
	return others
}

// whole is a complex number whose parts are whole, as two numbers.
type whole struct{ re, im int }

// number answers z as a complex number.
func (z whole) number() complex128 {
	return complex(float64(z.re), float64(z.im))
}

// same tells whether a and b are the same number: the sign of a nought does not count.
func same(a complex128, b complex128) bool {
	return real(a) == real(b) && imag(a) == imag(b)
}

// wholeMark answers the mark of a byte by the chapter's words.
func wholeMark(c byte) whole {
	return []whole{{1, 0}, {0, 1}, {-1, 0}, {0, -1}}[c%4]
}

// wholeTurn answers z times i to the power of n, multiplied as often as n is modulo 4.
func wholeTurn(z whole, n int) whole {
	often := new(big.Int).Mod(big.NewInt(int64(n)), big.NewInt(4)).Int64() // from 0 to 3
	for range often {
		z = whole{-z.im, z.re}
	}
	return z
}

// wholeSum answers all marks of t together.
func wholeSum(t []byte) whole {
	var sum whole
	for _, c := range t {
		m := wholeMark(c)
		sum = whole{sum.re + m.re, sum.im + m.im}
	}
	return sum
}

// wholeCorr answers Corr by the chapter's words: (a + bi) times (c - di) at each byte.
func wholeCorr(t []byte, p []byte) []whole {
	var corr []whole
	for j := 0; j+len(p) <= len(t); j++ {
		var sum whole
		for k, c := range p {
			a, b := wholeMark(t[j+k]), wholeMark(c)
			sum.re += a.re*b.re + a.im*b.im
			sum.im += a.im*b.re - a.re*b.im
		}
		corr = append(corr, sum)
	}
	return corr
}

// agrees tells whether a and b, of one length, agree modulo four in each byte.
func agrees(a []byte, b []byte) bool {
	for i := range a {
		if a[i]%4 != b[i]%4 {
			return false
		}
	}
	return true
}

// lookedAt answers the places where p agrees modulo four with t, by a look at each of them.
func lookedAt(t []byte, p []byte) []int {
	var places []int
	for j := 0; j+len(p) <= len(t); j++ {
		if agrees(t[j:j+len(p)], p) {
			places = append(places, j)
		}
	}
	return places
}

// standsAt answers the places where p stands in t.
func standsAt(t []byte, p []byte) []int {
	var places []int
	for j := 0; j+len(p) <= len(t); j++ {
		if bytes.Equal(t[j:j+len(p)], p) {
			places = append(places, j)
		}
	}
	return places
}

// numbers are numbers to be turned: marks, sums of marks, 0, those with both parts, small and great.
func numbers() []whole {
	return []whole{
		{0, 0}, {1, 0}, {0, 1}, {-1, 0}, {0, -1},
		{2, 0}, {0, 2}, {-2, 0}, {0, -2}, {1, 1}, {-1, 1}, {-1, -1}, {1, -1},
		{2, 1}, {3, 4}, {-3, 4}, {-3, -4}, {3, -4}, {8192, 0}, {0, -8192}, {8191, -1}, {-17, 4096},
		{1 << 53, 1}, {-1, 1 << 53}, {1<<53 - 1, 1 - 1<<53}, {-1 << 62, 1 << 40},
	}
}

// powers are numbers of turns: from -8 to 8, far ones with each rest modulo 4, the least and the greatest.
func powers() []int {
	var all []int
	for n := -8; n <= 8; n++ {
		all = append(all, n)
	}
	for rest := range 4 {
		all = append(all, math.MinInt+rest, math.MaxInt-rest, 1<<40+rest, -1<<40-rest, 1<<31+rest, -1<<31-rest, 1<<32+rest, 1000+rest, -1000-rest)
	}
	return all
}

// pair is a text and a pattern.
type pair struct {
	t []byte
	p []byte
}

// patterns answers patterns for t: none, of one byte, of repeated bytes, parts of t, those moved modulo 4 and by 4, the whole, longer ones.
func patterns(t []byte) [][]byte {
	all := [][]byte{
		nil, {}, {0}, {1}, {2}, {3}, {4}, {97}, {254}, {255}, {0, 0}, {3, 3, 3}, {1, 1, 1, 1}, {0, 1}, {0, 1, 0}, {97, 98, 97}, {0, 1, 2, 3}, {255, 0},
		alone(97, 20), turns(97, 98, 21), turns(3, 0, 16), rising(64), scattered(5),
		t, append(bytes.Clone(t), 0), slices.Concat([]byte{1}, t), slices.Concat(t, t, []byte("and more")), alone(0, len(t)+1), alone(97, len(t)+500),
	}
	for _, part := range parts(t) {
		for by := range byte(5) {
			all = append(all, moved(part, by))
		}
		all = append(all, moved(part, 252), slightly(part))
	}
	return all
}

// parts answers some parts of t.
func parts(t []byte) [][]byte {
	n := len(t)
	if n == 0 {
		return nil
	}
	return [][]byte{t[:1], t[n-1:], t[:n/2], t[n/2:], t[n/3 : n/3+min(3, n-n/3)], t[:n-1], t[1:], t}
}

// slightly answers part with its last byte, if any, moved by 1, so that all but one agree.
func slightly(part []byte) []byte {
	other := bytes.Clone(part)
	if len(other) > 0 {
		other[len(other)-1]++
	}
	return other
}

// texts are texts to be looked at.
func texts() [][]byte {
	return [][]byte{
		nil, {}, {0}, {1}, {2}, {3}, {255}, {0, 0}, {0, 1}, {1, 2, 3}, {1, 2, 6}, {3, 2, 1, 0}, {0, 4, 8, 12}, {255, 251, 3, 7},
		[]byte("banana"), []byte("abracadabra"), []byte("mississippi"), []byte("tobeornottobe"), []byte("aabb"),
		alone(0, 30), alone(97, 41), alone(255, 64), turns(97, 98, 50), turns(0, 255, 51), turns(1, 3, 40), turns(2, 6, 40),
		rising(256), rising(300), scattered(17), scattered(200), scattered(400), alike(300),
	}
}

// pairs are texts with their patterns.
func pairs() []pair {
	var all []pair
	for _, t := range texts() {
		for _, p := range patterns(t) {
			all = append(all, pair{t, p})
		}
	}
	return all
}

// longPairs are texts of MaxText bytes and of about as many, with patterns short and long.
func longPairs() []pair {
	mixed, mostly := scattered(longest), alike(longest)
	return []pair{
		{mixed, nil}, {mixed, mixed}, {mixed, mixed[7000:]}, {mixed, mixed[4000:4003]}, {mixed, moved(mixed[100:900], 4)}, {mixed, moved(mixed[100:900], 2)},
		{mostly, alone(1, 9)}, {mostly, alone(253, 40)}, {mostly, mostly[longest-50:]}, {mostly, alone(1, longest+1)},
		{alone(97, longest), alone(97, 800)}, {alone(97, longest), alone(99, 800)}, {turns(97, 98, longest), turns(98, 97, 801)},
		{scattered(3 * longest), mixed[:20]}, {mixed, scattered(3 * longest)},
	}
}

// few answers at most some 40 numbers or bytes of l, for a fault to be told by.
func few[T any](l []T) []T {
	return l[:min(40, len(l))]
}

// told tells a pair.
func (x pair) told() string {
	return fmt.Sprintf("%d bytes %v, pattern of %d bytes %v", len(x.t), few(x.t), len(x.p), few(x.p))
}

// wantCorr wants Corr to answer just these numbers.
func wantCorr(t *testing.T, x pair, want []whole) {
	t.Helper()
	got := phase.Corr(x.t, x.p)
	if len(got) != len(want) {
		t.Fatalf("Corr of %s has %d places, want %d", x.told(), len(got), len(want))
	}
	for j, z := range want {
		if !same(got[j], z.number()) {
			t.Fatalf("Corr of %s is %v at %d, want %v", x.told(), got[j], j, z.number())
		}
	}
}

// wantFilter wants Filter to answer just these places.
func wantFilter(t *testing.T, x pair, want []int) {
	t.Helper()
	if got := phase.Filter(x.t, x.p); !slices.Equal(got, want) {
		t.Fatalf("Filter of %s is %d places %v, want %d places %v", x.told(), len(got), few(got), len(want), few(want))
	}
}

// P23.1 Mark: each of the 256 bytes has 1, i, -1 or -i, as it is 0, 1, 2 or 3 modulo 4.
func TestMarkOfEachByte(t *testing.T) {
	for c := range 256 {
		want := []complex128{1, 1i, -1, -1i}[c%4]
		if got := phase.Mark(byte(c)); !same(got, want) {
			t.Errorf("Mark(%d) is %v, want %v", c, got, want)
		}
	}
}

// P23.1 Mark: the mark of a byte is 1, turned as often as the byte says.
func TestMarksAreTurnsOfOne(t *testing.T) {
	for c := range 256 {
		if got, want := phase.Mark(byte(c)), phase.Turn(1, c); !same(got, want) {
			t.Errorf("Mark(%d) is %v, Turn(1, %d) %v", c, got, c, want)
		}
	}
}

// P23.1 Turn: z times i to the power of n, n modulo 4 from 0 to 3, below 0 and far off too.
func TestTurnOfEachNumberByEachPower(t *testing.T) {
	for _, z := range numbers() {
		for _, n := range powers() {
			want := wholeTurn(z, n).number()
			if got := phase.Turn(z.number(), n); !same(got, want) {
				t.Errorf("Turn(%v, %d) is %v, want %v", z.number(), n, got, want)
			}
		}
	}
}

// P23.1 Turn: the four rests, written out.
func TestTurnWrittenOut(t *testing.T) {
	for _, c := range []struct {
		n    int
		want complex128
	}{
		{0, 3 + 4i}, {1, -4 + 3i}, {2, -3 - 4i}, {3, 4 - 3i}, {4, 3 + 4i},
		{-1, 4 - 3i}, {-2, -3 - 4i}, {-3, -4 + 3i}, {-4, 3 + 4i},
		{math.MinInt, 3 + 4i}, {math.MinInt + 1, -4 + 3i}, {math.MaxInt, 4 - 3i}, {math.MaxInt - 1, -3 - 4i},
	} {
		if got := phase.Turn(3+4i, c.n); !same(got, c.want) {
			t.Errorf("Turn(3+4i, %d) is %v, want %v", c.n, got, c.want)
		}
	}
}

// P23.1 Turn: four turns by 1 are none, and so are four by -1.
func TestFourTurnsAreNone(t *testing.T) {
	for _, z := range numbers() {
		for _, n := range []int{1, -1, 3, -3, 5, math.MaxInt, math.MinInt + 1} {
			got := z.number()
			for range 4 {
				got = phase.Turn(got, n)
			}
			if !same(got, z.number()) {
				t.Errorf("four turns of %v by %d are %v", z.number(), n, got)
			}
		}
	}
}

// P23.1 Turn: a turn by n and one by m are one by both; what goes past the greatest int is taken round by a multiple of 4.
func TestTwoTurnsAreOneByBoth(t *testing.T) {
	for _, z := range numbers() {
		for _, n := range powers() {
			for _, m := range powers() {
				got, want := phase.Turn(phase.Turn(z.number(), n), m), phase.Turn(z.number(), n+m)
				if !same(got, want) {
					t.Fatalf("%v turned by %d and %d is %v, by both %v", z.number(), n, m, got, want)
				}
			}
		}
	}
}

// P23.1 Turn, R9: a nought's sign does not count, in what is turned and in what comes of it.
func TestTurnOfSignedNoughts(t *testing.T) {
	minus := math.Copysign(0, -1)
	for _, n := range powers() {
		for _, z := range []complex128{complex(minus, minus), complex(0, minus), complex(minus, 0)} {
			if got := phase.Turn(z, n); !same(got, 0) {
				t.Errorf("Turn(%v, %d) is %v", z, n, got)
			}
		}
		if got, want := phase.Turn(complex(5, minus), n), wholeTurn(whole{5, 0}, n).number(); !same(got, want) {
			t.Errorf("Turn(5-0i, %d) is %v, want %v", n, got, want)
		}
	}
}

// R1 Turn ends and does not panic at numbers that are none, or have no end.
func TestTurnOfWhatIsNoNumber(t *testing.T) {
	odd := []float64{math.NaN(), math.Inf(1), math.Inf(-1), math.MaxFloat64, math.SmallestNonzeroFloat64, 0.5}
	for _, n := range powers() {
		for _, a := range odd {
			for _, b := range odd {
				phase.Turn(complex(a, b), n)
			}
		}
	}
}

// P23.1 Sum: no bytes, one, each byte once, scattered ones, MaxText bytes of one kind.
func TestSumOfEachText(t *testing.T) {
	all := append(texts(), rising(1024), scattered(longest), alike(longest), scattered(5*longest))
	for c := range 256 {
		all = append(all, []byte{byte(c)}, alone(byte(c), longest))
	}
	for _, text := range all {
		want := wholeSum(text).number()
		if got := phase.Sum(text); !same(got, want) {
			t.Errorf("Sum of %d bytes %v is %v, want %v", len(text), few(text), got, want)
		}
	}
}

// P23.1 Sum, written out: of none 0, of each byte once 0, of MaxText bytes of one kind as many marks.
func TestSumWrittenOut(t *testing.T) {
	for _, c := range []struct {
		text []byte
		want complex128
	}{
		{nil, 0}, {[]byte{}, 0}, {[]byte{0}, 1}, {[]byte{1}, 1i}, {[]byte{2}, -1}, {[]byte{3}, -1i}, {[]byte{255}, -1i},
		{[]byte{0, 1}, 1 + 1i}, {[]byte{2, 3, 3}, -1 - 2i}, {[]byte{0, 2}, 0}, {[]byte{1, 3}, 0}, {rising(256), 0},
		{alone(4, longest), 8192}, {alone(97, longest), 8192i}, {alone(98, longest), -8192}, {alone(255, longest), -8192i},
	} {
		if got := phase.Sum(c.text); !same(got, c.want) {
			t.Errorf("Sum of %d bytes %v is %v, want %v", len(c.text), few(c.text), got, c.want)
		}
	}
}

// P23.1 Sum: the order of the bytes does not count, two texts' sums together are that of both, and a text moved by n has its sum turned by n.
func TestSumsOfPartsAndMovedTexts(t *testing.T) {
	for _, text := range texts() {
		sum := phase.Sum(text)
		for i := range len(text) + 1 {
			if got := phase.Sum(text[:i]) + phase.Sum(text[i:]); !same(got, sum) {
				t.Fatalf("sums of %v parted at %d are %v, want %v", few(text), i, got, sum)
			}
		}
		for by := range 256 {
			if got, want := phase.Sum(moved(text, byte(by))), phase.Turn(sum, by); !same(got, want) {
				t.Fatalf("Sum of %v moved by %d is %v, want %v", few(text), by, got, want)
			}
		}
		back := bytes.Clone(text)
		slices.Reverse(back)
		if got := phase.Sum(back); !same(got, sum) {
			t.Fatalf("Sum of %v from behind is %v, want %v", few(text), got, sum)
		}
	}
}

// P23.2 Corr: at each place where the pattern still fits, the sum, byte by byte.
func TestCorrAgainstTheSumByteByByte(t *testing.T) {
	for _, x := range append(pairs(), longPairs()...) {
		wantCorr(t, x, wholeCorr(x.t, x.p))
	}
}

// P23.2 Corr: each pair of bytes by itself.
func TestCorrOfEachPairOfBytes(t *testing.T) {
	for a := range 256 {
		for b := range 256 {
			want := []complex128{1, 1i, -1, -1i}[(a-b+256)%4]
			got := phase.Corr([]byte{byte(a)}, []byte{byte(b)})
			if len(got) != 1 || !same(got[0], want) {
				t.Fatalf("Corr of %d and %d is %v, want %v", a, b, got, want)
			}
		}
	}
}

// P23.2 Corr: as many places as there are from 0 to where the pattern still fits: of an empty one, one more than bytes; of a longer one, none.
func TestCorrHasEachPlaceWhereThePatternFits(t *testing.T) {
	for _, n := range []int{0, 1, 2, 3, 10, 64, longest} {
		for _, m := range []int{0, 1, 2, 3, 9, 10, 11, 63, 64, 65, 100, longest - 1, longest, longest + 1, 4 * longest} {
			want := max(0, n-m+1)
			if got := phase.Corr(scattered(n), rising(m)); len(got) != want {
				t.Errorf("Corr of %d bytes and %d has %d places, want %d", n, m, len(got), want)
			}
		}
	}
}

// P23.2 Corr, Filter: an empty pattern agrees with nothing, wholly, at each place, that behind the last byte too.
func TestEmptyPattern(t *testing.T) {
	for _, n := range []int{0, 1, 2, 5, 300, longest} {
		var every []int
		for j := range n + 1 {
			every = append(every, j)
		}
		for _, p := range [][]byte{nil, {}} {
			x := pair{scattered(n), p}
			wantCorr(t, x, make([]whole, n+1))
			wantFilter(t, x, every)
		}
	}
}

// P23.2 Corr, written out: bytes that differ by 0, 1, 2 and 3 modulo 4, alone, repeated, and together.
func TestCorrWrittenOut(t *testing.T) {
	for _, c := range []struct {
		x    pair
		want []whole
	}{
		{pair{nil, nil}, []whole{{0, 0}}},
		{pair{nil, []byte{0}}, nil},
		{pair{[]byte{7}, []byte{7, 7}}, nil},
		{pair{[]byte{1, 2, 3}, []byte{2}}, []whole{{0, -1}, {1, 0}, {0, 1}}},
		{pair{[]byte("aaaa"), []byte("aa")}, []whole{{2, 0}, {2, 0}, {2, 0}}},
		{pair{[]byte("aaaa"), []byte("eee")}, []whole{{3, 0}, {3, 0}}},
		{pair{[]byte("bbb"), []byte("aaa")}, []whole{{0, 3}}},
		{pair{[]byte("ccc"), []byte("aaa")}, []whole{{-3, 0}}},
		{pair{[]byte("ddd"), []byte("aaa")}, []whole{{0, -3}}},
		{pair{[]byte("aaa"), []byte("bbb")}, []whole{{0, -3}}},
		{pair{[]byte("abcd"), []byte("aaaa")}, []whole{{0, 0}}},
		{pair{[]byte("aabc"), []byte("aaaa")}, []whole{{1, 1}}},
		{pair{[]byte{0, 255, 1}, []byte{255, 0}}, []whole{{0, 0}, {1, 1}}},
	} {
		wantCorr(t, c.x, c.want)
	}
}

// P23.2, example 1: Corr of 1, 2, 3 and 2 is -i, 1, i.
func TestExample(t *testing.T) {
	got := phase.Corr([]byte{1, 2, 3}, []byte{2})
	if len(got) != 3 || !same(got[0], -1i) || !same(got[1], 1) || !same(got[2], 1i) {
		t.Error(got)
	}
}

// P23.2 Corr: at a place it is the sum of the bytes that lie there, each less that of the pattern.
func TestCorrIsTheSumOfDifferences(t *testing.T) {
	for _, x := range pairs() {
		for j, z := range phase.Corr(x.t, x.p) {
			apart := bytes.Clone(x.t[j : j+len(x.p)])
			for k, c := range x.p {
				apart[k] -= c
			}
			if want := phase.Sum(apart); !same(z, want) {
				t.Fatalf("Corr of %s is %v at %d, want %v", x.told(), z, j, want)
			}
		}
	}
}

// P23.2 Filter: the places, rising, where Corr is just as many as the pattern has bytes, and no i.
func TestFilterHasThePlacesWhereCorrIsWhole(t *testing.T) {
	for _, x := range append(pairs(), longPairs()...) {
		var want []int
		for j, z := range wholeCorr(x.t, x.p) {
			if z == (whole{len(x.p), 0}) {
				want = append(want, j)
			}
		}
		wantFilter(t, x, want)
	}
}

// P23.2 Filter: of sums that are as great as the pattern is long, but turned, or whose parts together are as many as it has bytes, none is taken.
func TestFilterTakesNoSumWithSomeI(t *testing.T) {
	for n := 1; n <= 40; n++ {
		p := rising(n)
		for by := byte(1); by <= 3; by++ {
			wantFilter(t, pair{moved(p, by), p}, nil)
			for i := range n {
				wantFilter(t, pair{slices.Concat(p[:i], moved(p[i:], by)), p}, nil) // n - i bytes disagree
				wantFilter(t, pair{slices.Concat(moved(p[:i+1], by), p[i+1:]), p}, nil)
			}
		}
		wantFilter(t, pair{moved(p, 4), p}, []int{0})
	}
}

// P23.2 Filter: a sum whose part without i is as many as the pattern has bytes has no i: of all texts of five bytes there is none.
func TestNoSumIsWholeAndHasSomeI(t *testing.T) {
	for mixed := range 1 << 20 {
		text := []byte{byte(mixed & 3), byte(mixed >> 2 & 3), byte(mixed >> 4 & 3), byte(mixed >> 6 & 3), byte(mixed >> 8 & 3)}
		p := []byte{byte(mixed >> 10 & 3), byte(mixed >> 12 & 3), byte(mixed >> 14 & 3), byte(mixed >> 16 & 3), byte(mixed >> 18 & 3)}
		corr := phase.Corr(text, p)
		if len(corr) != 1 || real(corr[0]) == 5 != agrees(text, p) || real(corr[0]) == 5 && imag(corr[0]) != 0 {
			t.Fatalf("Corr of %v and %v is %v", text, p, corr)
		}
	}
}

// P23.2 Filter, written out: patterns that overlap themselves, agree in part, disagree by the sum of all, or are too long.
func TestFilterWrittenOut(t *testing.T) {
	for _, c := range []struct {
		x    pair
		want []int
	}{
		{pair{nil, nil}, []int{0}},
		{pair{nil, []byte{0}}, nil},
		{pair{[]byte{1, 2, 6}, []byte{2}}, []int{1, 2}},
		{pair{[]byte("aaaaa"), []byte("aaa")}, []int{0, 1, 2}},
		{pair{[]byte("abababa"), []byte("aba")}, []int{0, 2, 4}},
		{pair{[]byte("abababa"), []byte("efe")}, []int{0, 2, 4}},
		{pair{[]byte("abababa"), []byte("bab")}, []int{1, 3}},
		{pair{[]byte("abababa"), []byte("cdc")}, nil},
		{pair{[]byte("banana"), []byte("ana")}, []int{1, 3}},
		{pair{[]byte("banana"), []byte("banana")}, []int{0}},
		{pair{[]byte("banana"), []byte("bananas")}, nil},
		{pair{[]byte("banana"), []byte("banan")}, []int{0}},
		{pair{[]byte("abcd"), []byte("abce")}, nil},
		{pair{[]byte("dcba"), []byte("abcd")}, nil}, // the same marks, but elsewhere
		{pair{[]byte{255, 0, 3, 4}, []byte{3, 0}}, []int{0, 2}},
	} {
		wantFilter(t, c.x, c.want)
	}
}

// P23.3 What follows: Filter has the places where all bytes agree modulo four, and no others.
func TestFilterAgainstALookAtEachPlace(t *testing.T) {
	found := 0
	for _, x := range append(pairs(), longPairs()...) {
		want := lookedAt(x.t, x.p)
		wantFilter(t, x, want)
		if len(x.p) > 1 {
			found += len(want)
		}
	}
	if found < 100 {
		t.Errorf("only %d places looked at agree", found)
	}
}

// P23.3 What follows: Filter has each place where the pattern stands.
func TestFilterHasEachPlaceWhereThePatternStands(t *testing.T) {
	for _, x := range append(pairs(), longPairs()...) {
		places := phase.Filter(x.t, x.p)
		for _, j := range standsAt(x.t, x.p) {
			if _, there := slices.BinarySearch(places, j); !there {
				t.Fatalf("Filter of %s has not %d, where it stands", x.told(), j)
			}
		}
	}
}

// P23.3 What follows: bytes moved by multiples of four, whether in the text or in the pattern, change no place.
func TestFilterOfBytesMovedByFours(t *testing.T) {
	for _, x := range pairs() {
		want := phase.Filter(x.t, x.p)
		for _, by := range []byte{4, 100, 128, 252} {
			wantFilter(t, pair{moved(x.t, by), x.p}, want)
			wantFilter(t, pair{x.t, moved(x.p, by)}, want)
		}
	}
}

// within answers text with bytes behind its end that are nobody's.
func within(text []byte) []byte {
	return append(bytes.Clone(text), "behind"...)[:len(text)]
}

// R3, R7 No call changes what is handed in, nor what lies behind its end, nor counts that.
func TestNoCallChangesWhatIsHandedIn(t *testing.T) {
	for _, x := range pairs() {
		text, p := within(x.t), within(x.p)
		sum, corr, places := phase.Sum(text), phase.Corr(text, p), phase.Filter(text, p)
		for name, l := range map[string][2][]byte{"text": {text, x.t}, "pattern": {p, x.p}} {
			if room := l[0][:len(l[0])+6]; !bytes.Equal(room, append(bytes.Clone(l[1]), "behind"...)) {
				t.Fatalf("%s: the %s was changed to %v", x.told(), name, few(room))
			}
		}
		if !same(sum, phase.Sum(x.t)) || !slices.Equal(corr, phase.Corr(x.t, x.p)) || !slices.Equal(places, phase.Filter(x.t, x.p)) {
			t.Fatalf("%s: what lies behind the end counts", x.told())
		}
	}
}

// R3, R8 An answer is the caller's own: written over, with all its room, it changes no other, and the same call answers the same again.
func TestAnswersAreNewMemory(t *testing.T) {
	for _, x := range append(pairs(), longPairs()...) {
		text, p := bytes.Clone(x.t), bytes.Clone(x.p)
		corr, others := phase.Corr(text, p), phase.Corr(text, p)
		places, rest := phase.Filter(text, p), phase.Filter(text, p)
		want, at := slices.Clone(corr), slices.Clone(places)
		for i := range corr[:cap(corr)] {
			corr[:cap(corr)][i] = 77
		}
		for i := range places[:cap(places)] {
			places[:cap(places)][i] = -77
		}
		if !bytes.Equal(text, x.t) || !bytes.Equal(p, x.p) {
			t.Fatalf("%s: an answer shares memory with what is handed in", x.told())
		}
		if !slices.Equal(others, want) || !slices.Equal(rest, at) {
			t.Fatalf("%s: two answers share memory", x.told())
		}
		if !slices.Equal(phase.Corr(text, p), want) || !slices.Equal(phase.Filter(text, p), at) {
			t.Fatalf("%s: the same call answers otherwise", x.told())
		}
		for i := range text {
			text[i]++
		}
		if !slices.Equal(others, want) || !slices.Equal(rest, at) {
			t.Fatalf("%s: an answer hangs on what was handed in", x.told())
		}
	}
}

// R8 Mark, Turn and Sum answer the same twice.
func TestTheSameCallAnswersTheSame(t *testing.T) {
	for c := range 256 {
		if !same(phase.Mark(byte(c)), phase.Mark(byte(c))) {
			t.Errorf("Mark(%d)", c)
		}
	}
	for _, z := range numbers() {
		for _, n := range powers() {
			if !same(phase.Turn(z.number(), n), phase.Turn(z.number(), n)) {
				t.Errorf("Turn(%v, %d)", z.number(), n)
			}
		}
	}
	for _, text := range texts() {
		if !same(phase.Sum(text), phase.Sum(text)) {
			t.Errorf("Sum of %v", few(text))
		}
	}
}
