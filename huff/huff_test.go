package huff_test

import (
	"math"
	"slices"
	"strconv"
	"strings"
	"testing"

	"haystack/api"
	"haystack/huff"
)

const (
	all   = math.MaxUint64
	bound = 1 << 20 // the greatest count, and how many bits a row has at most: both written out as the document does
)

// chance answers a function that tells numbers below its argument, the same ones in each run.
func chance(seed uint64) func(below int) int {
	x := seed*2685821657736338717 + 88172645463325252
	return func(below int) int {
		x ^= x << 13
		x ^= x >> 7
		x ^= x << 17
		return int(x >> 33 % uint64(below))
	}
}

// with answers 256 numbers of 0, but for those of the first symbols, which are l.
func with(l ...int) []int { return at(0, l...) }

// at answers 256 numbers of 0, but for those from a symbol on, which are l.
func at(symbol int, l ...int) []int {
	out := make([]int, 256)
	copy(out[symbol:], l)
	return out
}

// alike answers n times x.
func alike(n, x int) []int { return slices.Repeat([]int{x}, n) }

// changed answers numbers of which one is another.
func changed(l []int, at, x int) []int {
	out := slices.Clone(l)
	out[at] = x
	return out
}

// scattered answers numbers in another order.
func scattered(l []int) []int {
	out := make([]int, len(l))
	for i, x := range l {
		out[(i*151+7)%len(l)] = x
	}
	return out
}

// fibonacci answers Fibonacci's numbers up to a bound.
func fibonacci(bound int) []int {
	l := []int{1, 1}
	for {
		n := len(l)
		if l[n-1]+l[n-2] > bound {
			return l
		}
		l = append(l, l[n-1]+l[n-2])
	}
}

// random answers 256 counts up to a bound, of which about one in every few is not 0.
func random(seed uint64, every, bound int) []int {
	pick := chance(seed)
	l := make([]int, 256)
	for i := range l {
		if pick(every) == 0 {
			l[i] = 1 + pick(bound)
		}
	}
	return l
}

// counted are counts that may be, by what they are.
func counted() map[string][]int {
	fib := fibonacci(bound)
	falling := slices.Clone(fib)
	slices.Reverse(falling)
	steps, squares := make([]int, 256), make([]int, 256)
	for i := range 256 {
		steps[i], squares[i] = i, i*i
	}
	out := map[string][]int{
		"none": with(), "the first alone": with(3), "the last alone": at(255, 1), "one in the middle": at(97, bound), "nought with 1": with(1),
		"two, the first less": with(1, 3), "two, the first greater": with(3, 1), "two alike": with(2, 2), "the first and the last": changed(with(5), 255, 5), "two of the greatest": at(254, bound, bound),
		"three alike": at(97, 1, 1, 1), "the chapter's": at(97, 3, 1), "the shared test's": at(97, 3, 1, 1), "four alike": at(3, 7, 7, 7, 7), "five alike": at(3, 7, 7, 7, 7, 7),
		"a thing like a symbol": with(1, 1, 2), "a thing like two symbols": with(1, 1, 2, 2), "a thing like the symbols ahead": with(2, 2, 1, 1), "things like one another": with(1, 1, 1, 1, 2, 2), "things like many symbols": with(1, 1, 2, 2, 2, 4, 4, 4, 8),
		"all alike": alike(256, 1), "all of the greatest": alike(256, bound), "all but one alike": changed(alike(256, 9), 100, 0), "all but one alike, one more": changed(alike(256, 9), 100, 10), "all but one alike, one less": changed(alike(256, 9), 100, 8), "all but one alike, one of twice as much": changed(alike(256, 9), 100, 18),
		"fibonacci": with(fib...), "fibonacci falling": with(falling...), "fibonacci behind": at(256-len(fib), fib...), "fibonacci scattered": scattered(with(fib...)), "fibonacci and the greatest": with(slices.Concat(fib, alike(256-len(fib), bound))...), "fibonacci and some of the greatest": scattered(with(slices.Concat(fib, alike(40, bound))...)),
		"fibonacci twice": with(slices.Concat(fib, falling)...), "steps": steps, "squares": squares, "squares scattered": scattered(squares),
	}
	for seed := range uint64(60) {
		for _, every := range []int{1, 3, 20, 100} {
			for _, most := range []int{1, 2, 3, 10, 1000, bound} {
				name := strings.Join([]string{"random", strconv.Itoa(int(seed)), strconv.Itoa(every), strconv.Itoa(most)}, " ")
				out[name] = random(seed*1000+uint64(every), every, most)
			}
		}
	}
	return out
}

// far are numbers that neither counts nor lengths may be.
func far() []int {
	return []int{math.MinInt, math.MinInt + 1, math.MinInt32, -bound, -256, -2, -1, bound + 1, 2 * bound, math.MaxInt32, 1 << 32, 1<<32 + 1, math.MaxInt - 1, math.MaxInt}
}

// walked answers the lengths of counts by the document's own way: all things in order, the two first becoming one.
func walked(counts []int) []int {
	type thing struct {
		count, number int
		symbols       []int
	}
	var left []thing
	for s, c := range counts {
		if c > 0 {
			left = append(left, thing{c, s, []int{s}})
		}
	}
	lengths := make([]int, 256)
	if len(left) == 1 {
		lengths[left[0].number] = 1
	}
	for number := 256; len(left) > 1; number++ {
		slices.SortFunc(left, func(a, b thing) int {
			if a.count != b.count {
				return a.count - b.count
			}
			return a.number - b.number
		})
		both := slices.Concat(left[0].symbols, left[1].symbols)
		for _, s := range both {
			lengths[s]++
		}
		left = append(left[2:], thing{left[0].count + left[1].count, number, both})
	}
	return lengths
}

// P11.1: lengths of counts that may be.
func TestLengths(t *testing.T) {
	for name, counts := range counted() {
		before := slices.Clone(counts)
		got, e := huff.Lengths(counts)
		if want := walked(counts); e != api.OK || !slices.Equal(got, want) {
			t.Errorf("Lengths of %s = %d, %d, want %d", name, got, e, want)
		}
		if !slices.Equal(counts, before) {
			t.Errorf("Lengths of %s changed them", name)
		}
	}
}

// P11.1: lengths that are told without any walk.
func TestLengthsWrittenOut(t *testing.T) {
	fib := fibonacci(bound)
	long := make([]int, len(fib)) // the two least are joined all the way; each further one is one of two a time less
	for i := range long {
		long[i] = len(fib) - max(i, 1)
	}
	for name, c := range map[string]struct{ counts, want []int }{
		"none":                      {with(), with()},
		"the first alone":           {with(1), with(1)},
		"the last alone":            {at(255, bound), at(255, 1)},
		"one in the middle":         {at(128, 77), at(128, 1)},
		"two":                       {at(97, 3, 1), at(97, 1, 1)},
		"two, far apart":            {changed(with(bound), 255, 1), changed(with(1), 255, 1)},
		"three alike":               {with(4, 4, 4), with(2, 2, 1)},
		"five alike":                {with(4, 4, 4, 4, 4), with(3, 3, 2, 2, 2)},
		"a thing like a symbol":     {with(1, 1, 2), with(2, 2, 1)},
		"a thing like two symbols":  {with(1, 1, 2, 2), with(2, 2, 2, 2)},
		"a thing like one of three": {with(1, 1, 2, 2, 2), with(3, 3, 2, 2, 2)},
		"all alike":                 {alike(256, 1), alike(256, 8)},
		"all of the greatest":       {alike(256, bound), alike(256, 8)},
		"255 alike":                 {changed(alike(256, 1), 255, 0), slices.Concat(alike(254, 8), []int{7, 0})},
		"fibonacci":                 {with(fib...), with(long...)},
	} {
		if got, e := huff.Lengths(c.counts); e != api.OK || !slices.Equal(got, c.want) {
			t.Errorf("Lengths of %s = %d, %d, want %d", name, got, e, c.want)
		}
	}
	if len(fib) != 30 || fib[29] != 832040 {
		t.Errorf("Fibonacci's numbers up to 2^20: %d", fib)
	}
}

// P11.1: counts that may not be.
func TestLengthsRefused(t *testing.T) {
	refused := [][]int{nil, {}, {1}, alike(255, 0), alike(255, 1), alike(257, 0), alike(257, 1), alike(512, 1), alike(65536, 0)}
	for _, x := range far() {
		for _, symbol := range []int{0, 1, 128, 254, 255} {
			refused = append(refused, changed(with(), symbol, x), changed(with(1, 2, 3), symbol, x), changed(alike(256, bound), symbol, x))
		}
		refused = append(refused, alike(256, x))
	}
	for _, counts := range refused {
		before := slices.Clone(counts)
		if got, e := huff.Lengths(counts); e != api.ErrArg || len(got) != 0 {
			t.Errorf("Lengths of %d counts %d = %d, %d, want ErrArg", len(counts), counts, got, e)
		}
		if !slices.Equal(counts, before) {
			t.Errorf("Lengths changed %d", before)
		}
	}
	for _, symbol := range []int{0, 128, 255} {
		for _, x := range []int{0, 1, bound - 1, bound} {
			if got, e := huff.Lengths(changed(with(), symbol, x)); e != api.OK || !slices.Equal(got, changed(with(), symbol, min(x, 1))) {
				t.Errorf("Lengths of %d alone = %d, %d", x, got, e)
			}
		}
	}
}

// P11.1, P11.2: what is answered for counts is taken as lengths, however deep it goes.
func TestLengthsFit(t *testing.T) {
	for name, counts := range counted() {
		l, _ := huff.Lengths(counts)
		c, e := huff.Codes(l)
		if e != api.OK || len(c) != 256 {
			t.Errorf("Codes of the lengths of %s: %d codes, %d", name, len(c), e)
		}
	}
}

// fill answers 256 lengths: those given, and behind them as few others as are needed, so that all fit.
func fill(l ...int) []int {
	out := with(l...)
	left := uint64(1) << 40
	for _, x := range l {
		if x > 0 {
			left -= 1 << (40 - x)
		}
	}
	symbol := len(l)
	for x := range 41 {
		if left>>(40-x)&1 == 1 {
			out[symbol] = x
			symbol++
		}
	}
	return out
}

// ladder answers the lengths above a first one, each once up to the longest, which there is twice: they are as much as one of the first length.
func ladder(first, longest int) []int {
	var l []int
	for x := first + 1; x <= longest; x++ {
		l = append(l, x)
	}
	return append(l, longest)
}

// fitting are lengths that fit, by what they are.
func fitting() map[string][]int {
	down := with(ladder(0, 40)...)
	slices.Reverse(down)
	out := map[string][]int{
		"none": with(), "the first alone": with(1), "the last alone": at(255, 1), "one in the middle": at(97, 1),
		"two": with(1, 1), "the last two": at(254, 1, 1), "the first and the last": changed(with(1), 255, 1), "the chapter's": at(97, 1, 1),
		"three": with(1, 2, 2), "three, the short one behind": with(2, 2, 1), "three, the short one between": with(2, 1, 2), "four": with(2, 2, 2, 2), "four of three lengths": at(200, 3, 1, 3, 2),
		"all of length 8": alike(256, 8), "one of length 7, 254 of 8": changed(changed(alike(256, 8), 200, 0), 13, 7), "half of length 7": scattered(with(alike(128, 7)...)),
		"a ladder to 2": with(ladder(0, 2)...), "a ladder to 39": with(ladder(0, 39)...), "a ladder to 40": with(ladder(0, 40)...), "a ladder to 40, falling": down, "a ladder to 40, scattered": scattered(with(ladder(0, 40)...)),
		"all symbols, long":       scattered(slices.Concat(alike(224, 8), ladder(3, 34))),
		"filled behind one of 40": fill(40), "filled behind two of 20": fill(20, 20), "filled behind some": fill(5, 9, 3, 40, 17, 5, 0, 2), "filled behind 100 of 40": fill(alike(100, 40)...), "filled behind 200 of 39": fill(alike(200, 39)...),
	}
	for name, counts := range counted() {
		if strings.HasPrefix(name, "random 1") || strings.HasPrefix(name, "fibonacci") {
			out["of the counts of "+name] = walked(counts)
		}
	}
	return out
}

// spelt answers the codes of lengths as texts of 0 and 1, by the document's own way, and whether they fit; the lengths are from 0 to 40.
func spelt(lengths []int) ([]string, bool) {
	var order []int
	sum := uint64(0)
	for s, l := range lengths {
		if l > 0 {
			order = append(order, s)
			sum += 1 << (40 - l)
		}
	}
	if len(order) > 0 && sum != 1<<40 && !(len(order) == 1 && lengths[order[0]] == 1) {
		return nil, false
	}
	slices.SortFunc(order, func(a, b int) int {
		if lengths[a] != lengths[b] {
			return lengths[a] - lengths[b]
		}
		return a - b
	})
	out := make([]string, 256)
	last := ""
	for i, s := range order {
		if i > 0 {
			last = andOne(last)
		}
		last += strings.Repeat("0", lengths[s]-len(last))
		out[s] = last
	}
	return out, true
}

// andOne answers the number of as many digits that comes next. Digits are carried over one by one.
func andOne(digits string) string {
	n := len(strings.TrimRight(digits, "1"))
	return digits[:n-1] + "1" + strings.Repeat("0", len(digits)-n)
}

// codesOf answers texts of 0 and 1 as codes.
func codesOf(texts []string) []api.Code {
	out := make([]api.Code, len(texts))
	for i, text := range texts {
		x, _ := strconv.ParseUint("0"+text, 2, 64)
		out[i] = api.Code{Len: len(text), Bits: x}
	}
	return out
}

// made answers the codes of lengths that fit, without the package that is tested.
func made(t *testing.T, lengths []int) []api.Code {
	t.Helper()
	texts, ok := spelt(lengths)
	if !ok {
		t.Fatalf("%d do not fit", lengths)
	}
	return codesOf(texts)
}

// P11.2: codes of lengths that fit.
func TestCodes(t *testing.T) {
	for name, lengths := range fitting() {
		before := slices.Clone(lengths)
		got, e := huff.Codes(lengths)
		if want := made(t, lengths); e != api.OK || !slices.Equal(got, want) {
			t.Errorf("Codes of %s = %v, %d, want %v", name, got, e, want)
		}
		if !slices.Equal(lengths, before) {
			t.Errorf("Codes of %s changed them", name)
		}
	}
}

// P11.2: codes that are told without any walk.
func TestCodesWrittenOut(t *testing.T) {
	eight := make([]api.Code, 256)
	for i := range eight {
		eight[i] = api.Code{Len: 8, Bits: uint64(i)}
	}
	long := make([]api.Code, 256) // 0, 10, 110 and so on, the last one all of 1
	for i := range 40 {
		long[i] = api.Code{Len: i + 1, Bits: 1<<(i+1) - 2}
	}
	long[40] = api.Code{Len: 40, Bits: 1<<40 - 1}
	some := make([]api.Code, 256)
	some[200], some[201], some[202], some[203] = api.Code{Len: 3, Bits: 0b110}, api.Code{Len: 1, Bits: 0}, api.Code{Len: 3, Bits: 0b111}, api.Code{Len: 2, Bits: 0b10}
	alone := make([]api.Code, 256)
	alone[255] = api.Code{Len: 1}
	for name, c := range map[string]struct {
		lengths []int
		want    []api.Code
	}{
		"none":                  {with(), make([]api.Code, 256)},
		"the last alone":        {at(255, 1), alone},
		"all of length 8":       {alike(256, 8), eight},
		"a ladder to 40":        {with(ladder(0, 40)...), long},
		"four of three lengths": {at(200, 3, 1, 3, 2), some},
	} {
		if got, e := huff.Codes(c.lengths); e != api.OK || !slices.Equal(got, c.want) {
			t.Errorf("Codes of %s = %v, %d, want %v", name, got, e, c.want)
		}
	}
}

// misfits are lengths that do not fit, each of them from 0 to 40.
func misfits() [][]int {
	out := [][]int{
		with(2), at(255, 2), at(97, 3), with(40), at(255, 40), // one alone, of another length than 1
		with(1, 2), with(2, 1), with(2, 2), with(2, 2, 2), with(1, 1, 1), with(1, 1, 40), with(1, 2, 2, 40), with(40, 40), alike(256, 40), alike(256, 1), alike(256, 7), alike(256, 9),
		changed(alike(256, 8), 0, 0), changed(alike(256, 8), 255, 7), changed(alike(256, 8), 255, 9), changed(alike(256, 8), 100, 40),
		with(ladder(0, 40)[:40]...), with(append(ladder(0, 40), 40)...), with(append(ladder(0, 39), 40)...), changed(with(ladder(0, 40)...), 40, 39),
	}
	for _, l := range fitting() { // too few by one, and too many by one of the shortest and of the longest
		if n := len(l) - len(slices.Collect(noughts(l))); n > 2 { // of two one less is one alone, which may be
			first := slices.IndexFunc(l, func(x int) bool { return x > 0 })
			out = append(out, changed(l, first, 0))
			for place := range noughts(l) {
				out = append(out, changed(l, place, 1), changed(l, place, 40), changed(l, place, l[first]))
				break
			}
		}
	}
	return out
}

// noughts tells the places of numbers that are 0.
func noughts(l []int) func(yield func(int) bool) {
	return func(yield func(int) bool) {
		for i, x := range l {
			if x == 0 && !yield(i) {
				return
			}
		}
	}
}

// P11.2: lengths that do not fit, or that may not be.
func TestCodesRefused(t *testing.T) {
	refused := misfits()
	for _, l := range refused {
		if _, ok := spelt(l); ok {
			t.Fatalf("%d fit", l)
		}
	}
	refused = append(refused, nil, []int{}, []int{1}, []int{1, 1}, alike(255, 0), alike(257, 0), alike(512, 0), alike(255, 8), alike(257, 8), append(with(1, 1), 0), append(with(1), 1), with(1, 1)[:255])
	for _, x := range append(far(), 41, 42, 63, 64, 65, 104, 255, 256) {
		for _, symbol := range []int{0, 1, 128, 254, 255} {
			refused = append(refused, changed(with(), symbol, x), changed(at(97, 1, 1), symbol, x), changed(alike(256, 8), symbol, x), changed(with(ladder(0, 40)...), symbol, x))
		}
		refused = append(refused, alike(256, x), with(x, x))
	}
	for _, lengths := range refused {
		before := slices.Clone(lengths)
		if got, e := huff.Codes(lengths); e != api.ErrArg || len(got) != 0 {
			t.Errorf("Codes of %d lengths %d = %v, %d, want ErrArg", len(lengths), lengths, got, e)
		}
		if !slices.Equal(lengths, before) {
			t.Errorf("Codes changed %d", before)
		}
	}
}

// row answers the row of a text of 0 and 1, built word by word from what api says of Bits.
func row(text string) api.Bits {
	b := api.Bits{N: len(text)}
	for i := range len(text) {
		if i%64 == 0 {
			b.W = append(b.W, 0)
		}
		if text[i] == '1' {
			b.W[i/64] += 1 << (i % 64)
		}
	}
	return b
}

// mixed answers a text of n 0s and 1s, with runs and changes.
func mixed(n int) string {
	pick := chance(uint64(n) + 5)
	out := make([]byte, n)
	for i := range out {
		out[i] = "01"[pick(2)]
	}
	return string(out)
}

// lowest answers the lowest n bits of x, the highest first.
func lowest(x uint64, n int) string {
	digits := strings.Repeat("0", 64) + strconv.FormatUint(x, 2)
	return digits[len(digits)-n:]
}

func same(a, b api.Bits) bool {
	return a.N == b.N && slices.Equal(a.W, b.W)
}

func clone(b api.Bits) api.Bits {
	return api.Bits{N: b.N, W: slices.Clone(b.W)}
}

// short tells a row in few words: the rows of 2^20 bits would fill the screen.
func short(b api.Bits) api.Bits {
	return api.Bits{N: b.N, W: b.W[:min(len(b.W), 4)]}
}

// wrongRows are rows that may not be.
func wrongRows() []api.Bits {
	return []api.Bits{
		{N: -1}, {N: -1, W: []uint64{0}}, {N: -64, W: []uint64{1}}, {N: math.MinInt}, {N: math.MinInt, W: []uint64{0}},
		{N: 0, W: []uint64{0}}, {N: 0, W: []uint64{1}}, {N: 1}, {N: 64}, {N: 1, W: []uint64{1, 0}}, {N: 64, W: []uint64{1, 0}}, {N: 65, W: []uint64{1}}, {N: 128, W: []uint64{1}},
		{N: 1, W: []uint64{2}}, {N: 1, W: []uint64{1 << 63}}, {N: 63, W: []uint64{all}}, {N: 65, W: []uint64{1, 2}}, {N: 127, W: []uint64{1, 1 << 63}},
		{N: bound + 1, W: make([]uint64, bound/64+1)}, {N: bound + 64, W: make([]uint64, bound/64+1)}, {N: bound, W: []uint64{0}}, {N: bound, W: make([]uint64, bound/64+1)},
		{N: math.MaxInt}, {N: math.MaxInt, W: []uint64{0}}, {N: math.MaxInt - 62, W: []uint64{0}},
	}
}

// P11.3 Put: rows and codes that may be, also codes whose Bits are more than their Len bits hold, of which the lowest count.
func TestPut(t *testing.T) {
	words := []uint64{0, 1, 2, 5, 0b110, 255, 256, 1<<39 - 1, 1 << 39, 1<<40 - 1, 1 << 40, 1<<40 + 1, 1 << 63, 0xAAAAAAAAAAAAAAAA, 0x5555555555555555, 0xF0F0F0F0F0F0F0F1, all - 1, all}
	for _, n := range []int{0, 1, 2, 23, 24, 25, 62, 63, 64, 65, 66, 127, 128, 129, 1000} {
		for length := range 41 {
			for _, x := range words {
				text := mixed(n)
				b := row(text)
				got, e := huff.Put(b, api.Code{Len: length, Bits: x})
				if want := row(text + lowest(x, length)); e != api.OK || !same(got, want) {
					t.Fatalf("Put of %d bits of %#x behind %d = %#x, %d, want %#x", length, x, n, got, e, want)
				}
				if !same(b, row(text)) {
					t.Fatalf("Put of %d bits of %#x changed the row of %d", length, x, n)
				}
			}
		}
	}
}

// P11.3 Put: the longest rows there are.
func TestPutLongest(t *testing.T) {
	text := mixed(bound)
	for _, c := range []struct {
		n, length int
		e         api.Errno
	}{
		{bound, 0, api.OK}, {bound, 1, api.ErrArg}, {bound, 40, api.ErrArg},
		{bound - 1, 0, api.OK}, {bound - 1, 1, api.OK}, {bound - 1, 2, api.ErrArg}, {bound - 1, 40, api.ErrArg},
		{bound - 39, 39, api.OK}, {bound - 39, 40, api.ErrArg}, {bound - 40, 40, api.OK}, {bound - 64, 40, api.OK},
	} {
		b, want := row(text[:c.n]), api.Bits{}
		if c.e == api.OK {
			want = row(text[:c.n] + lowest(0xCCCCCCCCCCCCCCCD, c.length))
		}
		if got, e := huff.Put(b, api.Code{Len: c.length, Bits: 0xCCCCCCCCCCCCCCCD}); e != c.e || !same(got, want) {
			t.Errorf("Put of %d bits behind %d = %#x, %d, want %#x, %d", c.length, c.n, short(got), e, short(want), c.e)
		}
		if !same(b, row(text[:c.n])) {
			t.Errorf("Put of %d bits changed the row of %d", c.length, c.n)
		}
	}
}

// P11.3 Put: lengths and rows that may not be; nothing stands beside the error.
func TestPutRefused(t *testing.T) {
	for _, length := range append(far(), 41, 42, 63, 64, 65, 256) {
		for _, b := range append(wrongRows(), row(""), row("1"), row(mixed(63)), row(mixed(64)), row(mixed(65)), row(mixed(bound))) {
			for _, x := range []uint64{0, 1, all} {
				if got, e := huff.Put(b, api.Code{Len: length, Bits: x}); e != api.ErrArg || !same(got, api.Bits{}) {
					t.Errorf("Put of %d bits behind %#x = %#x, %d, want ErrArg", length, short(b), short(got), e)
				}
			}
		}
	}
	for _, b := range wrongRows() {
		before := clone(b)
		for _, c := range []api.Code{{}, {Len: 0, Bits: all}, {Len: 1}, {Len: 1, Bits: 1}, {Len: 40, Bits: all}} {
			if got, e := huff.Put(b, c); e != api.ErrArg || !same(got, api.Bits{}) {
				t.Errorf("Put of %v behind %#x = %#x, %d, want ErrArg", c, short(b), short(got), e)
			}
		}
		if !same(b, before) {
			t.Errorf("Put changed %#x", short(before))
		}
	}
}

// read answers what Next is to answer of codes that are spelt, in a text from a place on that there is.
func read(texts []string, text string, at int) (int, int, api.Errno) {
	rest := text[at:]
	begun := rest == ""
	for s, code := range texts {
		if code != "" && strings.HasPrefix(rest, code) {
			return s, at + len(code), api.OK
		}
		begun = begun || code != "" && strings.HasPrefix(code, rest)
	}
	if begun {
		return 0, 0, api.ErrShort
	}
	return 0, 0, api.ErrForm
}

// P11.3 Next: codes of lengths that fit, at all places of rows, and behind them.
func TestNext(t *testing.T) {
	told := map[api.Errno]int{}
	for name, lengths := range fitting() {
		texts, _ := spelt(lengths)
		codes := codesOf(texts)
		for _, text := range []string{"", "0", "1", "01", "10", strings.Repeat("0", 70), strings.Repeat("1", 39), strings.Repeat("1", 40), strings.Repeat("1", 70), mixed(63), mixed(64), mixed(65), strings.Repeat("1", 30) + mixed(60) + strings.Repeat("1", 9)} {
			b := row(text)
			for at := range len(text) + 1 {
				s, next, e := huff.Next(codes, b, at)
				if s2, next2, e2 := read(texts, text, at); s != s2 || next != next2 || e != e2 {
					t.Fatalf("Next of %s at %d of %s = %d, %d, %d, want %d, %d, %d", name, at, text, s, next, e, s2, next2, e2)
				}
				told[e]++
			}
			for _, at := range append(far(), len(text)+1, len(text)+2, len(text)+64) {
				if s, next, e := huff.Next(codes, b, at); s != 0 || next != 0 || e != api.ErrRange {
					t.Fatalf("Next of %s at %d of %s = %d, %d, %d, want ErrRange", name, at, text, s, next, e)
				}
			}
			if !same(b, row(text)) || !slices.Equal(codes, codesOf(texts)) {
				t.Fatalf("Next of %s in %s changed what was given", name, text)
			}
		}
	}
	if told[api.OK] < 1000 || told[api.ErrShort] < 1000 || told[api.ErrForm] < 500 {
		t.Errorf("each answer should be told often: %v", told)
	}
}

// P11.3 Next: what is told without any walk.
func TestNextWrittenOut(t *testing.T) {
	three, alone, none, long := made(t, at(97, 1, 2, 2)), made(t, at(97, 1)), made(t, with()), made(t, with(ladder(0, 40)...))
	for _, c := range []struct {
		codes    []api.Code
		text     string
		at       int
		s, after int
		e        api.Errno
	}{
		{three, "01011", 0, 97, 1, 0}, {three, "01011", 1, 98, 3, 0}, {three, "01011", 2, 97, 3, 0}, {three, "01011", 3, 99, 5, 0}, {three, "01011", 4, 0, 0, 160}, {three, "01011", 5, 0, 0, 160}, {three, "01011", 6, 0, 0, 3}, {three, "01011", -1, 0, 0, 3},
		{alone, "001", 0, 97, 1, 0}, {alone, "001", 1, 97, 2, 0}, {alone, "001", 2, 0, 0, 161}, {alone, "001", 3, 0, 0, 160}, {alone, "001", 4, 0, 0, 3}, {alone, "100", 0, 0, 0, 161}, {alone, "", 0, 0, 0, 160},
		{none, "0", 0, 0, 0, 161}, {none, "1", 0, 0, 0, 161}, {none, "1", 1, 0, 0, 160}, {none, "", 0, 0, 0, 160}, {none, "", 1, 0, 0, 3}, {none, "", -1, 0, 0, 3},
		{long, strings.Repeat("1", 40), 0, 40, 40, 0}, {long, strings.Repeat("1", 39) + "0", 0, 39, 40, 0}, {long, strings.Repeat("1", 39), 0, 0, 0, 160}, {long, strings.Repeat("1", 41), 1, 40, 41, 0}, {long, strings.Repeat("1", 41), 2, 0, 0, 160}, {long, strings.Repeat("1", 64) + "0", 64, 0, 65, 0}, {long, strings.Repeat("1", 64) + "0", 62, 2, 65, 0},
	} {
		if s, after, e := huff.Next(c.codes, row(c.text), c.at); s != c.s || after != c.after || e != c.e {
			t.Errorf("Next at %d of %s = %d, %d, %d, want %d, %d, %d", c.at, c.text, s, after, e, c.s, c.after, c.e)
		}
	}
}

// P11.3 Next: at the end of the longest row.
func TestNextLongest(t *testing.T) {
	b := row(strings.Repeat("0", bound-2) + "10")
	codes := made(t, at(97, 1, 2, 2))
	for _, c := range []struct {
		at, s, after int
		e            api.Errno
	}{{bound - 3, 97, bound - 2, 0}, {bound - 2, 98, bound, 0}, {bound - 1, 97, bound, 0}, {bound, 0, 0, 160}, {bound + 1, 0, 0, 3}, {0, 97, 1, 0}} {
		if s, after, e := huff.Next(codes, b, c.at); s != c.s || after != c.after || e != c.e {
			t.Errorf("Next at %d = %d, %d, %d, want %d, %d, %d", c.at, s, after, e, c.s, c.after, c.e)
		}
	}
}

// places are those that Next is asked at where all of them are refused alike.
func places() []int { return append(far(), 0, 1, 2) }

// wantNoCodes checks that Next refuses the codes, whatever the row and the place.
func wantNoCodes(t *testing.T, what string, codes []api.Code) {
	t.Helper()
	before := slices.Clone(codes)
	for _, b := range []api.Bits{{}, row("0"), row("1011"), {N: -1}, {N: 65, W: []uint64{0}}} {
		for _, at := range places() {
			if s, next, e := huff.Next(codes, b, at); s != 0 || next != 0 || e != api.ErrArg {
				t.Fatalf("Next of %s at %d of %#x = %d, %d, %d, want ErrArg", what, at, b, s, next, e)
			}
		}
	}
	if !slices.Equal(codes, before) {
		t.Fatalf("Next of %s changed them", what)
	}
}

// changedCode answers codes of which one is another.
func changedCode(codes []api.Code, at int, c api.Code) []api.Code {
	out := slices.Clone(codes)
	out[at] = c
	return out
}

// canonical tells whether codes are those of their lengths.
func canonical(codes []api.Code) bool {
	lengths := make([]int, len(codes))
	for i, c := range codes {
		if c.Len < 0 || c.Len > 40 {
			return false
		}
		lengths[i] = c.Len
	}
	texts, ok := spelt(lengths)
	return ok && slices.Equal(codesOf(texts), codes)
}

// P11.3 Next: codes that are not Codes of their Lens, in one way alone.
func TestNextOtherCodes(t *testing.T) {
	kept := 0
	for _, lengths := range [][]int{with(), with(1), at(255, 1), at(97, 1, 1), at(97, 2, 1, 2), alike(256, 8), with(ladder(0, 40)...), scattered(slices.Concat(alike(224, 8), ladder(3, 34)))} {
		codes := made(t, lengths)
		for _, s := range []int{0, 1, 39, 40, 97, 98, 99, 128, 254, 255} {
			c := codes[s]
			for place := range 64 {
				wantNoCodes(t, "one bit changed", changedCode(codes, s, api.Code{Len: c.Len, Bits: c.Bits ^ 1<<place}))
			}
			for _, length := range append(far(), 0, 1, 2, 8, 39, 40, 41, 64, c.Len-1, c.Len+1) {
				if other := changedCode(codes, s, api.Code{Len: length, Bits: c.Bits}); !canonical(other) {
					wantNoCodes(t, "a Len changed", other)
				} else {
					kept++
				}
			}
		}
		wantNoCodes(t, "one too few", codes[:255])
		wantNoCodes(t, "one too few, the first", codes[1:])
		wantNoCodes(t, "one too many", append(slices.Clone(codes), api.Code{}))
		wantNoCodes(t, "one too many, of 8", append(slices.Clone(codes), api.Code{Len: 8, Bits: 255}))
		wantNoCodes(t, "twice as many", slices.Concat(codes, codes))
	}
	if kept == 0 {
		t.Error("a Len that stays, or is 0 or 1 alone, leaves the codes right")
	}
}

// P11.3 Next: codes of which none is the beginning of another one, but that are not Codes of their Lens; none at all.
func TestNextNotCanonical(t *testing.T) {
	wantNoCodes(t, "no codes", nil)
	wantNoCodes(t, "an empty list", []api.Code{})
	wantNoCodes(t, "two, the other way round", codesOf(slices.Concat([]string{"1", "0"}, make([]string, 254))))
	wantNoCodes(t, "three, the long ones first", codesOf(slices.Concat([]string{"1", "00", "01"}, make([]string, 253))))
	wantNoCodes(t, "three, likes the other way round", codesOf(slices.Concat([]string{"0", "11", "10"}, make([]string, 253))))
	wantNoCodes(t, "one alone, 1", codesOf(slices.Concat([]string{"1"}, make([]string, 255))))
	wantNoCodes(t, "one alone, of two bits", codesOf(slices.Concat([]string{"00"}, make([]string, 255))))
	wantNoCodes(t, "two that leave room", codesOf(slices.Concat([]string{"0", "10"}, make([]string, 254))))
	wantNoCodes(t, "one the beginning of another", codesOf(slices.Concat([]string{"0", "01", "1"}, make([]string, 253))))
	for _, lengths := range misfits() {
		codes := make([]api.Code, 256)
		for i, l := range lengths {
			codes[i].Len = l
		}
		wantNoCodes(t, "lengths that do not fit", codes)
	}
	for _, l := range append(far(), 41, 64) {
		wantNoCodes(t, "all of a length that may not be", slices.Repeat([]api.Code{{Len: l}}, 256))
	}
}

// P11.3 Next: rows that may not be are refused ahead of the place.
func TestNextWrongRows(t *testing.T) {
	for _, lengths := range [][]int{with(), with(1), at(97, 1, 1), alike(256, 8), with(ladder(0, 40)...)} {
		codes := made(t, lengths)
		for _, b := range wrongRows() {
			before := clone(b)
			for _, at := range append(places(), 63, 64, 65, b.N, b.N-1) {
				if s, next, e := huff.Next(codes, b, at); s != 0 || next != 0 || e != api.ErrArg {
					t.Errorf("Next at %d of %#x = %d, %d, %d, want ErrArg", at, short(b), s, next, e)
				}
			}
			if !same(b, before) {
				t.Errorf("Next changed %#x", short(before))
			}
		}
	}
}

// P11.3 Cost: counts and lengths within their bounds, whether the lengths are those of the counts, and fit, or not.
func TestCost(t *testing.T) {
	lists := [][]int{with(), with(1), with(40), alike(256, 1), alike(256, 8), alike(256, 40), at(255, 40), at(254, 1, 1), with(ladder(0, 40)...), scattered(with(ladder(0, 40)...))}
	for _, l := range fitting() {
		lists = append(lists, l)
	}
	for name, counts := range counted() {
		if strings.HasPrefix(name, "random 2") { // as good as any
			continue
		}
		before := slices.Clone(counts)
		for _, lengths := range lists {
			want := 0
			for i := range 256 {
				want += counts[i] * lengths[i]
			}
			if got := huff.Cost(counts, lengths); got != want {
				t.Fatalf("Cost of %s and %d = %d, want %d", name, lengths, got, want)
			}
		}
		if !slices.Equal(counts, before) {
			t.Fatalf("Cost of %s changed them", name)
		}
	}
	for _, c := range []struct {
		counts, lengths []int
		want            int
	}{
		{alike(256, bound), alike(256, 40), 256 * 40 << 20}, {at(255, bound), at(255, 40), 40 << 20}, {at(255, bound), at(254, 40), 0}, {with(), alike(256, 40), 0}, {alike(256, bound), with(), 0},
		{at(97, 3, 1), at(97, 1, 1), 4}, {at(97, 3, 1, 1), at(97, 1, 2, 2), 7}, {alike(256, 1), alike(256, 8), 2048},
	} {
		if got := huff.Cost(c.counts, c.lengths); got != c.want {
			t.Errorf("Cost of %d and %d = %d, want %d", c.counts, c.lengths, got, c.want)
		}
	}
}

// P11.3 Cost: what may not be costs nothing.
func TestCostRefused(t *testing.T) {
	counts, lengths := alike(256, 7), alike(256, 8)
	wrongCounts := [][]int{nil, {}, {7}, alike(255, 7), alike(257, 7), append(slices.Clone(counts), 0)}
	wrongLengths := [][]int{nil, {}, {8}, alike(255, 8), alike(257, 8), append(slices.Clone(lengths), 0)}
	for _, symbol := range []int{0, 128, 255} {
		for _, x := range far() {
			wrongCounts = append(wrongCounts, changed(counts, symbol, x), changed(with(1), symbol, x))
		}
		for _, x := range append(far(), 41, 42, 64, 256, bound) {
			wrongLengths = append(wrongLengths, changed(lengths, symbol, x), changed(with(1), symbol, x))
		}
	}
	for _, c := range wrongCounts {
		for _, l := range append(wrongLengths, lengths, with(), with(1), alike(len(c), 8)) {
			if got := huff.Cost(c, l); got != 0 {
				t.Errorf("Cost of %d and %d = %d, want 0", c, l, got)
			}
		}
	}
	for _, l := range wrongLengths {
		for _, c := range [][]int{counts, with(), with(1), alike(len(l), 7)} {
			if got := huff.Cost(c, l); got != 0 {
				t.Errorf("Cost of %d and %d = %d, want 0", c, l, got)
			}
		}
	}
}

// texts are rows of symbols, of few and of many, some of them much more often than others.
func texts() [][]byte {
	out := [][]byte{nil, {0}, {255}, []byte("a"), []byte("aaaaaaaa"), []byte("aaab"), []byte("ba"), []byte("abracadabra"), []byte("mississippi")}
	every := make([]byte, 256)
	for i := range every {
		every[i] = byte(i)
	}
	out = append(out, every, slices.Repeat(every, 3))
	for _, n := range []int{20, 100, 1000, 3000} {
		for _, below := range []int{2, 3, 5, 17, 100, 256} {
			pick := chance(uint64(n + below))
			text := make([]byte, n)
			for i := range text {
				text[i] = byte(pick(pick(below) + 1)) // low ones more often
			}
			out = append(out, text)
		}
	}
	var rising []byte // of Fibonacci's numbers, so that codes are long
	for i, n := range fibonacci(1000) {
		rising = append(rising, slices.Repeat([]byte{byte(255 - i)}, n)...)
	}
	return append(out, rising)
}

// P11.4: symbols that were put by the codes of their counts are read, one behind the other, in as many bits as Cost tells.
func TestPutIsRead(t *testing.T) {
	for _, text := range texts() {
		counts := make([]int, 256)
		for _, s := range text {
			counts[s]++
		}
		lengths, e := huff.Lengths(counts)
		codes, f := huff.Codes(lengths)
		if e != api.OK || f != api.OK {
			t.Fatalf("%d symbols: %d, %d", len(text), e, f)
		}
		for _, ahead := range []int{0, 1, 63, 64} {
			b := row(mixed(ahead))
			for _, s := range text {
				if b, e = huff.Put(b, codes[s]); e != api.OK {
					t.Fatalf("Put of %d: %d", s, e)
				}
			}
			if cost := huff.Cost(counts, lengths); b.N != ahead+cost {
				t.Errorf("%d symbols need %d bits, Cost tells %d", len(text), b.N-ahead, cost)
			}
			wantRead(t, codes, b, ahead, text)
		}
	}
}

// wantRead checks that the symbols stand in b from a place on, and nothing behind them.
func wantRead(t *testing.T, codes []api.Code, b api.Bits, at int, text []byte) {
	t.Helper()
	for i, want := range text {
		s, next, e := huff.Next(codes, b, at)
		if e != api.OK || s != int(want) || next != at+codes[want].Len {
			t.Fatalf("symbol %d of %d: %d, %d, %d, want %d", i, len(text), s, next, e, want)
		}
		at = next
	}
	if s, next, e := huff.Next(codes, b, at); at != b.N || s != 0 || next != 0 || e != api.ErrShort {
		t.Errorf("behind all %d symbols: %d, %d, %d at %d of %d", len(text), s, next, e, at, b.N)
	}
}

// P11.4: each symbol's code alone is read, and no less of it; the others of lengths that fit too.
func TestEachCodeIsRead(t *testing.T) {
	for name, lengths := range fitting() {
		codes, e := huff.Codes(lengths)
		if e != api.OK {
			t.Fatalf("Codes of %s: %d", name, e)
		}
		for s, c := range codes {
			if c.Len == 0 {
				continue
			}
			b, _ := huff.Put(api.Bits{}, c)
			if got, next, e := huff.Next(codes, b, 0); got != s || next != c.Len || e != api.OK {
				t.Fatalf("%s: symbol %d is read as %d, %d, %d", name, s, got, next, e)
			}
			less, _ := huff.Put(api.Bits{}, api.Code{Len: c.Len - 1, Bits: c.Bits >> 1})
			if got, next, e := huff.Next(codes, less, 0); got != 0 || next != 0 || e != api.ErrShort {
				t.Fatalf("%s: symbol %d without its last bit is read as %d, %d, %d", name, s, got, next, e)
			}
		}
	}
}

// P11.4: no code is the beginning of another one.
func TestNoBeginnings(t *testing.T) {
	lists := fitting()
	for name, counts := range counted() {
		lists["the lengths of "+name], _ = huff.Lengths(counts)
	}
	for name, lengths := range lists {
		codes, e := huff.Codes(lengths)
		if e != api.OK {
			t.Fatalf("Codes of %s: %d", name, e)
		}
		var texts []string
		for s, c := range codes {
			if c.Len != lengths[s] || c.Bits>>c.Len != 0 {
				t.Fatalf("%s: symbol %d has %v, want %d bits", name, s, c, lengths[s])
			}
			if c.Len > 0 {
				texts = append(texts, lowest(c.Bits, c.Len))
			}
		}
		slices.Sort(texts) // a beginning stands just ahead of what begins so
		for i := 1; i < len(texts); i++ {
			if strings.HasPrefix(texts[i], texts[i-1]) {
				t.Fatalf("%s: %s is the beginning of %s", name, texts[i-1], texts[i])
			}
		}
	}
}

// roomy answers a list with others in the room behind its end.
func roomy[T any](l []T, behind T) []T {
	return append(slices.Clone(l), behind, behind, behind)[:len(l)]
}

// wantRoom checks that the room behind the end was not written to.
func wantRoom[T comparable](t *testing.T, what string, l []T, behind T) {
	t.Helper()
	for _, x := range l[len(l) : len(l)+3] {
		if x != behind {
			t.Errorf("%s: the room behind was written to: %v", what, x)
		}
	}
}

// R3, R7: of a list its length alone counts, and what is behind its end stays.
func TestRoomBehind(t *testing.T) {
	counts := roomy(at(97, 3, 1, 1), 5)
	lengths, e := huff.Lengths(counts)
	if e != api.OK || !slices.Equal(lengths, at(97, 1, 2, 2)) {
		t.Errorf("Lengths = %d, %d", lengths, e)
	}
	lengths = roomy(lengths, 3)
	codes, e := huff.Codes(lengths)
	if e != api.OK || !slices.Equal(codes, made(t, at(97, 1, 2, 2))) {
		t.Errorf("Codes = %v, %d", codes, e)
	}
	if huff.Cost(counts, lengths) != 7 {
		t.Errorf("Cost = %d", huff.Cost(counts, lengths))
	}
	codes = roomy(codes, api.Code{Len: 7, Bits: 7})
	for _, n := range []int{0, 62, 63, 64} {
		b := row(mixed(n))
		b.W = roomy(b.W, all)
		c, e := huff.Put(b, codes[99])
		if e != api.OK || !same(c, row(mixed(n)+"11")) {
			t.Errorf("Put = %#x, %d", c, e)
		}
		wantRoom(t, "Put", b.W, all)
		c.W = roomy(c.W, all)
		if s, next, e := huff.Next(codes, c, n); s != 99 || next != n+2 || e != api.OK {
			t.Errorf("Next = %d, %d, %d", s, next, e)
		}
		if s, next, e := huff.Next(codes, c, n+2); s != 0 || next != 0 || e != api.ErrShort {
			t.Errorf("Next at the end = %d, %d, %d", s, next, e)
		}
		wantRoom(t, "Next", c.W, all)
	}
	wantRoom(t, "counts", counts, 5)
	wantRoom(t, "lengths", lengths, 3)
	wantRoom(t, "codes", codes, api.Code{Len: 7, Bits: 7})
}

// overwritten writes x to all that a list has room for.
func overwritten[T any](l []T, x T) {
	l = l[:cap(l)]
	for i := range l {
		l[i] = x
	}
}

// R3, R4: what is answered is memory of its own, apart from what was given and from what other calls answer.
func TestSharesNothing(t *testing.T) {
	for name, counts := range counted() {
		before := slices.Clone(counts)
		first, _ := huff.Lengths(counts)
		lengths, _ := huff.Lengths(counts)
		overwritten(first, -7)
		if !slices.Equal(counts, before) || !slices.Equal(lengths, walked(counts)) {
			t.Fatalf("%s: Lengths shares memory", name)
		}
		codes, _ := huff.Codes(lengths)
		other, _ := huff.Codes(lengths)
		overwritten(codes, api.Code{Len: -7, Bits: 7})
		if !slices.Equal(lengths, walked(counts)) || !slices.Equal(other, made(t, lengths)) {
			t.Fatalf("%s: Codes shares memory", name)
		}
	}
	for _, n := range []int{0, 1, 23, 24, 63, 64, 65, 1000, bound - 40, bound} {
		for _, length := range []int{0, 1, 40} {
			text := mixed(n)
			b := row(text)
			c, e := huff.Put(b, api.Code{Len: length, Bits: all})
			d, _ := huff.Put(b, api.Code{Len: length, Bits: all})
			overwritten(c.W, 0x7777777777777777)
			if !same(b, row(text)) || e == api.OK && !same(d, row(text+strings.Repeat("1", length))) {
				t.Errorf("Put of %d bits behind %d shares memory", length, n)
			}
		}
	}
}

// The same call on the same arguments answers the same.
func TestAgain(t *testing.T) {
	for name, counts := range counted() {
		l, _ := huff.Lengths(counts)
		again, _ := huff.Lengths(slices.Clone(counts))
		if !slices.Equal(l, again) {
			t.Errorf("Lengths of %s = %d, then %d", name, l, again)
		}
	}
}

// The chapter's example.
func TestExample(t *testing.T) {
	counts := make([]int, 256)
	counts['a'], counts['b'] = 3, 1
	l, e := huff.Lengths(counts)
	if e != api.OK || l['a'] != 1 || l['b'] != 1 || huff.Cost(counts, l) != 4 {
		t.Errorf("Lengths = %d, %d", l, e)
	}
	c, e := huff.Codes(l)
	if e != api.OK || c['a'] != (api.Code{Len: 1, Bits: 0}) || c['b'] != (api.Code{Len: 1, Bits: 1}) {
		t.Errorf("Codes = %v, %d", c, e)
	}
}
