package stream_test

import (
	"math"
	"slices"
	"strconv"
	"testing"

	"haystack/api"
	"haystack/stream"
)

const (
	all  = math.MaxUint64
	most = 1 << 20 // MaxBits, written out as the document does
)

// row answers the row of the bits l, built word by word from what api says of Bits.
func row(l []bool) api.Bits {
	b := api.Bits{N: len(l)}
	for i, x := range l {
		if i%64 == 0 {
			b.W = append(b.W, 0)
		}
		if x {
			b.W[i/64] += 1 << (i % 64)
		}
	}
	return b
}

// mixed answers n bits of a fixed row that has runs and changes.
func mixed(n int) []bool {
	l := make([]bool, n)
	x := uint64(88172645463325252)
	for i := range l {
		x ^= x << 13
		x ^= x >> 7
		x ^= x << 17
		l[i] = x>>40&1 == 1
	}
	return l
}

// noughts answers n noughts.
func noughts(n int) []bool { return make([]bool, n) }

// joined answers the bits of all lists, one behind the other.
func joined(l ...[]bool) []bool { return slices.Concat(l...) }

// drawn answers the bits of a text of 0 and 1.
func drawn(text string) []bool {
	l := []bool{}
	for _, r := range text {
		l = append(l, r == '1')
	}
	return l
}

// rest answers the bits of x below its highest 1, the lowest first, by its digits.
func rest(x uint64) []bool {
	l := drawn(strconv.FormatUint(x, 2))[1:]
	slices.Reverse(l)
	return l
}

// gamma answers the gamma code of x, by its digits.
func gamma(x uint64) []bool {
	return joined(noughts(len(rest(x))), []bool{true}, rest(x))
}

// delta answers the delta code of x, by its digits.
func delta(x uint64) []bool {
	return joined(gamma(uint64(len(rest(x))+1)), rest(x))
}

// way is one of the two codes with its calls.
type way struct {
	name  string
	delta bool
	code  func(x uint64) []bool
	put   func(b api.Bits, x uint64) (api.Bits, api.Errno)
	read  func(b api.Bits, at int) (uint64, int, api.Errno)
}

func ways() []way {
	return []way{
		{"gamma", false, gamma, stream.PutGamma, stream.Gamma},
		{"delta", true, delta, stream.PutDelta, stream.Delta},
	}
}

// numbers are the small ones, those about each power of two, and some between.
func numbers() []uint64 {
	l := []uint64{}
	for x := range uint64(70) {
		l = append(l, x+1)
	}
	for k := 6; k < 64; k++ {
		p := uint64(1) << k
		l = append(l, p-1, p, p+1, p+p/2, p+p/3, p+p/7)
	}
	return append(l, 1000, 0xAAAAAAAAAAAAAAAA, 0xCCCCCCCCCCCCCCCD, 1<<63+12345, all-1, all)
}

// edges are few of them, for what is gone through at every place: the least, the greatest, and some about powers of two.
func edges() []uint64 {
	return []uint64{1, 2, 3, 4, 5, 7, 8, 255, 256, 1<<31 - 1, 1 << 31, 1<<32 - 1, 1 << 32, 1<<62 - 1, 1<<63 - 1, 1 << 63, 0xAAAAAAAAAAAAAAAA, all - 1, all}
}

// lengths are how many bits stand ahead of codes: at words' edges and between.
func lengths() []int {
	l := []int{}
	for n := range 131 {
		l = append(l, n)
	}
	return append(l, 191, 192, 193, 511, 512, 513, 1000)
}

// far are places far from every row.
func far() []int {
	return []int{math.MinInt, math.MinInt + 1, math.MinInt + 64, math.MinInt32, -most, -65, -64, -63, -2, -1, 2 * most, math.MaxInt32, 1 << 32, 1<<32 + 1, math.MaxInt - 64, math.MaxInt - 1, math.MaxInt}
}

// wrong are rows that may not be.
func wrong() []api.Bits {
	code := uint64(1) // a code that could be read, were the row one that may be
	return []api.Bits{
		{N: -1}, {N: -1, W: []uint64{code}}, {N: -64, W: []uint64{code}}, {N: math.MinInt}, {N: math.MinInt, W: []uint64{code}},
		{N: 0, W: []uint64{0}}, {N: 0, W: []uint64{code}}, {N: 1}, {N: 64}, {N: 1, W: []uint64{code, 0}}, {N: 64, W: []uint64{code, 0}}, {N: 65, W: []uint64{code}}, {N: 128, W: []uint64{code}},
		{N: 1, W: []uint64{3}}, {N: 1, W: []uint64{1<<63 | code}}, {N: 63, W: []uint64{all}}, {N: 65, W: []uint64{code, 2}}, {N: 127, W: []uint64{code, 1 << 63}},
		{N: most + 1, W: append([]uint64{code}, make([]uint64, most/64)...)}, {N: most + 64, W: append([]uint64{code}, make([]uint64, most/64)...)}, {N: most, W: []uint64{code}},
		{N: math.MaxInt}, {N: math.MaxInt, W: []uint64{code}}, {N: math.MaxInt - 62, W: []uint64{code}},
	}
}

func same(a, b api.Bits) bool {
	return a.N == b.N && slices.Equal(a.W, b.W)
}

func clone(b api.Bits) api.Bits {
	return api.Bits{N: b.N, W: slices.Clone(b.W)}
}

// short tells a row in few words: the rows of 2^20 bits would fill the screen.
func short(b api.Bits) api.Bits {
	return api.Bits{N: b.N, W: b.W[:min(len(b.W), 4)]}
}

func wantRow(t *testing.T, what string, x uint64, got api.Bits, e api.Errno, want api.Bits, wantE api.Errno) {
	t.Helper()
	if e != wantE || !same(got, want) {
		t.Errorf("%s of %d: got %v (%d words), %d, want %v (%d words), %d", what, x, short(got), len(got.W), e, short(want), len(want.W), wantE)
	}
}

func wantRead(t *testing.T, w way, b api.Bits, at int, x uint64, end int, e api.Errno) {
	t.Helper()
	got, gotEnd, gotE := w.read(b, at)
	if got != x || gotEnd != end || gotE != e {
		t.Errorf("%s at %d of %v: got %d, %d, %d, want %d, %d, %d", w.name, at, short(b), got, gotEnd, gotE, x, end, e)
	}
}

// apart checks that got is words of its own: neither those of in nor room behind them.
func apart(t *testing.T, what string, got api.Bits, in api.Bits) {
	t.Helper()
	words, given := got.W[:cap(got.W)], in.W[:cap(in.W)]
	before := slices.Clone(given)
	for i := range words {
		words[i] = ^words[i]
	}
	if !slices.Equal(given, before) {
		t.Errorf("%s: the answer shares words with what was handed in", what)
	}
	for i := range words {
		words[i] = ^words[i]
	}
}

// The reference is held to codes written out by hand.
func TestReference(t *testing.T) {
	for _, c := range []struct {
		x            uint64
		gamma, delta string
	}{
		{1, "1", "1"}, {2, "010", "0100"}, {3, "011", "0101"}, {4, "00100", "01100"}, {5, "00110", "01110"}, {6, "00101", "01101"}, {8, "0001000", "00100000"}, {10, "0001010", "00100010"},
		{16, "000010000", "001100000"}, {17, "000011000", "001101000"},
	} {
		if !slices.Equal(gamma(c.x), drawn(c.gamma)) || !slices.Equal(delta(c.x), drawn(c.delta)) {
			t.Errorf("%d: %v, %v", c.x, gamma(c.x), delta(c.x))
		}
	}
}

// P4.1: example 1 of the chapter.
func TestExample(t *testing.T) {
	b, e := stream.PutGamma(api.Bits{}, 5)
	wantRow(t, "PutGamma", 5, b, e, api.Bits{N: 5, W: []uint64{0b01100}}, api.OK)
}

// P4.1: the code stands behind the row, whichever the number, and over words' borders.
func TestPut(t *testing.T) {
	for _, w := range ways() {
		for _, x := range numbers() {
			for _, n := range []int{0, 1, 37, 63, 64, 65, 127, 128} {
				ahead := mixed(n)
				got, e := w.put(row(ahead), x)
				wantRow(t, w.name, x, got, e, row(joined(ahead, w.code(x))), api.OK)
			}
		}
		for _, x := range edges() {
			for _, n := range lengths() {
				ahead := mixed(n)
				got, e := w.put(row(ahead), x)
				wantRow(t, w.name, x, got, e, row(joined(ahead, w.code(x))), api.OK)
			}
		}
	}
}

// P4.1: as many bits as MaxBits allows once the code is behind, and one more, which leaves the row as it is.
func TestPutMost(t *testing.T) {
	ahead := mixed(most)
	for _, w := range ways() {
		for _, x := range edges() {
			code := w.code(x)
			full := ahead[:most-len(code)]
			got, e := w.put(row(full), x)
			wantRow(t, w.name, x, got, e, row(joined(full, code)), api.OK)
			for _, more := range []int{1, 2, 64} {
				in := row(ahead[:min(most, most-len(code)+more)])
				got, e = w.put(in, x)
				wantRow(t, w.name, x, got, e, in, api.ErrArg)
				apart(t, w.name, got, in)
			}
			in := row(ahead)
			got, e = w.put(in, x)
			wantRow(t, w.name, x, got, e, in, api.ErrArg)
		}
	}
}

// P4.1: 0 has no code; the row is answered as it is.
func TestPutNought(t *testing.T) {
	for _, w := range ways() {
		for _, n := range append(lengths(), most-1, most) {
			in := row(mixed(n))
			got, e := w.put(in, 0)
			wantRow(t, w.name, 0, got, e, in, api.ErrArg)
			apart(t, w.name, got, in)
		}
	}
}

// P4.1: a row that may not be is answered as it is, whichever the number.
func TestPutWrong(t *testing.T) {
	for _, w := range ways() {
		for _, x := range append(edges(), 0) {
			for _, b := range wrong() {
				in := clone(b)
				got, e := w.put(in, x)
				wantRow(t, w.name, x, got, e, b, api.ErrArg)
				if !same(in, b) {
					t.Errorf("%s of %d changed %v", w.name, x, short(b))
				}
				apart(t, w.name, got, in)
			}
		}
	}
}

// P4.1: what is handed in is neither changed nor shared, nor is the room behind its words.
func TestPutApart(t *testing.T) {
	for _, w := range ways() {
		for _, x := range append(edges(), 0) {
			for _, n := range []int{0, 1, 5, 60, 63, 64, 65, 120, 128, 200} {
				in := row(mixed(n))
				in.W = append(in.W, 77, 78, 79, 80)[:len(in.W)]
				before := slices.Clone(in.W[:cap(in.W)])
				got, _ := w.put(in, x)
				if !slices.Equal(in.W[:cap(in.W)], before) || in.N != n {
					t.Errorf("%s of %d changed the row of %d bits", w.name, x, n)
				}
				apart(t, w.name, got, in)
			}
		}
	}
}

// P4.2: a code is read wherever it begins, whatever stands ahead and behind.
func TestRead(t *testing.T) {
	for _, w := range ways() {
		for _, x := range edges() {
			code := w.code(x)
			for _, n := range lengths() {
				ahead := mixed(n)
				wantRead(t, w, row(joined(ahead, code)), n, x, n+len(code), api.OK)
				wantRead(t, w, row(joined(ahead, code, noughts(70))), n, x, n+len(code), api.OK)
				wantRead(t, w, row(joined(ahead, code, []bool{true, true, true})), n, x, n+len(code), api.OK)
			}
		}
		for _, x := range numbers() {
			code := w.code(x)
			wantRead(t, w, row(code), 0, x, len(code), api.OK)
			wantRead(t, w, row(joined(mixed(29), code, mixed(9))), 29, x, 29+len(code), api.OK)
		}
	}
}

// P4.2: a code at the end of the longest row.
func TestReadMost(t *testing.T) {
	ahead := mixed(most)
	for _, w := range ways() {
		for _, x := range edges() {
			code := w.code(x)
			at := most - len(code)
			b := row(joined(ahead[:at], code))
			wantRead(t, w, b, at, x, most, api.OK)
			wantRead(t, w, b, most, 0, 0, api.ErrShort)
			wantRead(t, w, b, most+1, 0, 0, api.ErrRange)
		}
	}
}

// P4.2: ErrArg of a row that may not be, ahead of ErrRange of a place; 0, 0.
func TestReadWrong(t *testing.T) {
	for _, w := range ways() {
		for _, b := range wrong() {
			before := clone(b)
			for _, at := range append(far(), 0, 1, 63, 64, b.N-1, b.N, b.N+1) {
				wantRead(t, w, b, at, 0, 0, api.ErrArg)
			}
			if !same(b, before) {
				t.Errorf("%s changed %v", w.name, short(before))
			}
		}
	}
}

// P4.2: ErrRange of places below 0 and above N; N itself is a place, at which bits end.
func TestReadPlaces(t *testing.T) {
	for _, w := range ways() {
		for _, n := range append(lengths(), most) {
			b := row(mixed(n))
			before := clone(b)
			for _, at := range append(far(), n+1, n+2, n+63, n+64, n+65) {
				wantRead(t, w, b, at, 0, 0, api.ErrRange)
			}
			wantRead(t, w, b, n, 0, 0, api.ErrShort)
			if !same(b, before) {
				t.Errorf("%s changed the row of %d bits", w.name, n)
			}
		}
		for _, b := range []api.Bits{{}, {W: []uint64{}}, {W: make([]uint64, 0, 3)}} {
			wantRead(t, w, b, -1, 0, 0, api.ErrRange)
			wantRead(t, w, b, 0, 0, 0, api.ErrShort)
			wantRead(t, w, b, 1, 0, 0, api.ErrRange)
		}
	}
}

// P4.2: ErrShort wherever a code is broken off: ahead of it, within the noughts, behind the 1, within the low bits. What words stand in the room behind the row are nobody's.
func TestReadShort(t *testing.T) {
	for _, w := range ways() {
		for _, x := range numbers() {
			code := w.code(x)
			for n := range code {
				wantRead(t, w, row(code[:n]), 0, 0, 0, api.ErrShort)
				wantRead(t, w, row(joined(mixed(61), code[:n])), 61, 0, 0, api.ErrShort)
				roomy := row(code[:n])
				roomy.W = append(roomy.W, all, all)[:len(roomy.W)]
				wantRead(t, w, roomy, 0, 0, 0, api.ErrShort)
			}
		}
	}
}

// P4.2: 63 noughts are a number's or bits end within, 64 are no code, whether anything is behind them or not.
func TestReadNoughts(t *testing.T) {
	for _, w := range ways() {
		for _, n := range []int{0, 1, 5, 63, 64, 65} {
			ahead := mixed(n)
			for count := range 64 {
				wantRead(t, w, row(joined(ahead, noughts(count))), n, 0, 0, api.ErrShort)
			}
			for _, count := range []int{64, 65, 66, 127, 128, 129, 1000, most - n} {
				wantRead(t, w, row(joined(ahead, noughts(count))), n, 0, 0, api.ErrForm)
			}
			for _, count := range []int{64, 65, 127, 1000} {
				wantRead(t, w, row(joined(ahead, noughts(count), []bool{true})), n, 0, 0, api.ErrForm)
				wantRead(t, w, row(joined(ahead, noughts(count), []bool{true}, mixed(200))), n, 0, 0, api.ErrForm)
			}
			longest := joined(ahead, noughts(63), []bool{true})
			for count := range 63 {
				wantRead(t, w, row(joined(longest, noughts(count))), n, 0, 0, api.ErrShort)
			}
		}
	}
	b := row(joined(noughts(63), []bool{true}, noughts(63)))
	wantRead(t, ways()[0], b, 0, 1<<63, 127, api.OK)
	wantRead(t, ways()[1], b, 0, 0, 0, api.ErrForm)
}

// P4.2: a delta code's n may be 64, none above; that it is above is wrong ahead of the bits that are missing behind it, and bits that are missing within it ahead of that.
func TestDeltaLength(t *testing.T) {
	w := ways()[1]
	for _, ahead := range [][]bool{{}, mixed(1), mixed(57), mixed(64), mixed(100)} {
		at := len(ahead)
		wantRead(t, w, row(joined(ahead, gamma(64), noughts(63))), at, 1<<63, at+13+63, api.OK)
		wantRead(t, w, row(joined(ahead, gamma(64), noughts(62))), at, 0, 0, api.ErrShort)
		wantRead(t, w, row(joined(ahead, gamma(64))), at, 0, 0, api.ErrShort)
		for _, n := range []uint64{65, 66, 67, 96, 127, 128, 129, 255, 256, 1 << 31, 1 << 32, 1<<32 + 1, 1<<32 + 64, 1<<63 - 1, 1 << 63, 1<<63 + 1, 1<<63 + 64, all - 1, all} {
			code := gamma(n)
			wantRead(t, w, row(joined(ahead, code)), at, 0, 0, api.ErrForm)
			wantRead(t, w, row(joined(ahead, code, noughts(1))), at, 0, 0, api.ErrForm)
			wantRead(t, w, row(joined(ahead, code, mixed(300))), at, 0, 0, api.ErrForm)
			for count := range code {
				wantRead(t, w, row(joined(ahead, code[:count])), at, 0, 0, api.ErrShort)
			}
		}
	}
}

// P4.2: Size is how many bits are put; 0 of 0.
func TestSize(t *testing.T) {
	for _, w := range ways() {
		if got := stream.Size(0, w.delta); got != 0 {
			t.Errorf("Size of 0, %s: %d", w.name, got)
		}
		for _, x := range numbers() {
			if got, want := stream.Size(x, w.delta), len(w.code(x)); got != want {
				t.Errorf("Size of %d, %s: got %d, want %d", x, w.name, got, want)
			}
			if b, _ := w.put(api.Bits{}, x); b.N != stream.Size(x, w.delta) {
				t.Errorf("Size of %d, %s: %d bits were put", x, w.name, b.N)
			}
		}
	}
	for _, c := range []struct {
		x            uint64
		gamma, delta int
	}{{1, 1, 1}, {2, 3, 4}, {3, 3, 4}, {4, 5, 5}, {7, 5, 5}, {8, 7, 8}, {1000, 19, 16}, {1 << 32, 65, 43}, {1 << 62, 125, 73}, {1 << 63, 127, 76}, {all, 127, 76}} {
		if g, d := stream.Size(c.x, false), stream.Size(c.x, true); g != c.gamma || d != c.delta {
			t.Errorf("Size of %d: %d, %d", c.x, g, d)
		}
	}
}

// P4.3: what was put, one code behind the other and both codes by turns, is read with the places behind.
func TestPutRead(t *testing.T) {
	l := numbers()
	slices.Reverse(l[:300])
	b, ends := api.Bits{}, []int{}
	for i, x := range l {
		w := ways()[i%3%2]
		longer, e := w.put(b, x)
		if e != api.OK || longer.N != b.N+stream.Size(x, w.delta) {
			t.Fatalf("%s of %d: %d bits, %d", w.name, x, longer.N, e)
		}
		b = longer
		ends = append(ends, b.N)
	}
	at := 0
	for i, x := range l {
		got, end, e := ways()[i%3%2].read(b, at)
		if got != x || end != ends[i] || e != api.OK {
			t.Fatalf("number %d at %d: got %d, %d, %d, want %d, %d", i, at, got, end, e, x, ends[i])
		}
		at = end
	}
	if at != b.N {
		t.Errorf("read to %d of %d", at, b.N)
	}
}
