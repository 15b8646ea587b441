package planner_test

import (
	"cmp"
	"math"
	"slices"
	"strings"
	"testing"

	"haystack/api"
	"haystack/bits"
	"haystack/bwt"
	"haystack/config"
	"haystack/ints"
	"haystack/planner"
	"haystack/seq"
	"haystack/suffix"
	"haystack/vector"
)

// The document's numbers, written out.
const (
	symbols    = 256
	longest    = 1 << 13 // MaxText
	mostBits   = 1 << 20 // MaxBits
	mostWeight = 1 << 16
	column     = 32 * 258 // Row and C
	howMany    = 378      // configurations
)

// begun tells how many parts of a size n things begin.
func begun(n int, size int) int {
	l := 0
	for from := 0; from < n; from += size {
		l++
	}
	return l
}

// length tells the length of a number: how often it is to be halved to be 0.
func length(x int) int {
	l := 0
	for ; x > 0; x /= 2 {
		l++
	}
	return l
}

// fanoByWords tells by layer 9's words how many bits a row needs.
func fanoByWords(n int, m int) int {
	w := 0
	if m > 0 {
		w = length(n/m) - 1
	}
	part := n
	for range w {
		part /= 2
	}
	return m*w + (m + part + 1) + 64
}

// rowByWords tells by the chapter's words what Row is.
func rowByWords(kind int, n int, ones int) int {
	if n < 0 || n > mostBits || ones < 0 || ones > n {
		return 0
	}
	switch kind {
	case 1:
		return n + 32*(n/512+1) + 16*begun(n, 64)
	case 2:
		blocks := begun(n, 15)
		return 17*blocks + 64*max(1, begun(blocks, 8))
	case 3:
		return fanoByWords(n, ones)
	}
	return 0
}

// thing is some symbols, their count together, and the number that it has.
type thing struct {
	members []int
	count   int
	number  int
}

// lengthsByWords tells by layer 11's words how long codes are.
func lengthsByWords(counts []int) []int {
	lengths := make([]int, symbols)
	var things []thing
	for c, n := range counts {
		if n > 0 {
			things = append(things, thing{members: []int{c}, count: n, number: c})
		}
	}
	if len(things) == 1 {
		lengths[things[0].number] = 1
	}
	for next := symbols; len(things) > 1; next++ {
		slices.SortFunc(things, func(a, b thing) int {
			return cmp.Or(cmp.Compare(a.count, b.count), cmp.Compare(a.number, b.number))
		})
		a, b := things[0], things[1]
		both := thing{members: slices.Concat(a.members, b.members), count: a.count + b.count, number: next}
		for _, c := range both.members {
			lengths[c]++
		}
		things = append(things[2:], both)
	}
	return lengths
}

// plusOne answers digits of the base 2 that tell one more, as many of them.
func plusOne(digits string) string {
	i := strings.LastIndexByte(digits, '0')
	return digits[:i] + "1" + strings.Repeat("0", len(digits)-i-1)
}

// codesByWords tells by layer 11's words the codes of these lengths, as digits; of those of length 0 none.
func codesByWords(lengths []int) []string {
	var order []int
	for c, l := range lengths {
		if l > 0 {
			order = append(order, c)
		}
	}
	slices.SortStableFunc(order, func(a, b int) int { return cmp.Compare(lengths[a], lengths[b]) })
	codes := make([]string, symbols)
	ahead := ""
	for i, c := range order {
		if i > 0 {
			ahead = plusOne(ahead)
		}
		ahead += strings.Repeat("0", lengths[c]-len(ahead))
		codes[c] = ahead
	}
	return codes
}

// sum tells how many symbols there are.
func sum(counts []int) int {
	n := 0
	for _, count := range counts {
		n += count
	}
	return n
}

// known is what is known of counts that may be, and of the rows of blocks.
type known struct {
	counts []int
	n      int
	lens   []int
	levels [][2]int          // of bits 7 to 0: how many symbols, how many of which have that bit
	nodes  map[string][2]int // of beginnings of codes: how many symbols, how many of which go on by a 1
	worsts map[[2]int]int    // what was found, by kind and length
}

// knownOf tells by the words what is known of counts.
func knownOf(counts []int) known {
	k := known{counts: counts, n: sum(counts), lens: lengthsByWords(counts), nodes: map[string][2]int{}, worsts: map[[2]int]int{}}
	for bit := 7; bit >= 0; bit-- {
		ones := 0
		for c, n := range counts {
			if c&(1<<bit) != 0 {
				ones += n
			}
		}
		k.levels = append(k.levels, [2]int{k.n, ones})
	}
	for c, code := range codesByWords(k.lens) {
		for i := range len(code) {
			r := k.nodes[code[:i]]
			r[0] += counts[c]
			if code[i] == '1' {
				r[1] += counts[c]
			}
			k.nodes[code[:i]] = r
		}
	}
	return k
}

// worst tells the greatest Row of a kind, of s bits.
func (k known) worst(kind int, s int) int {
	if bits, ok := k.worsts[[2]int{kind, s}]; ok {
		return bits
	}
	most := 0
	for ones := 0; ones <= s; ones++ {
		most = max(most, rowByWords(kind, s, ones))
	}
	k.worsts[[2]int{kind, s}] = most
	return most
}

// block tells how many bits a block of s symbols needs beside Ahead.
func (k known) block(c api.Config, s int) int {
	switch c.Inner {
	case 1:
		return 8 * k.worst(c.Kind, s)
	case 3:
		return 8*k.worst(c.Kind, s) + 256
	}
	return 1536 + min(255, s)*k.worst(c.Kind, s)
}

// text tells how many bits the turned text needs.
func (k known) text(c api.Config) int {
	all := 0
	switch c.Shape {
	case 1, 3:
		for _, r := range k.levels {
			all += rowByWords(c.Kind, r[0], r[1])
		}
		if c.Shape == 3 {
			all += 256
		}
	case 2:
		all = 1536
		for _, r := range k.nodes {
			all += rowByWords(c.Kind, r[0], r[1])
		}
	case 4:
		size := 1 << c.Log
		all = 4096 * begun(k.n, size)
		for from := 0; from < k.n; from += size {
			all += k.block(c, min(size, k.n-from))
		}
	}
	return all
}

// more tells what Bits adds to the text.
func (k known) more(c api.Config) int {
	sampled := k.n/c.Sample + 1
	return column + rowByWords(c.Kind, k.n+1, sampled) + sampled*max(1, length(sampled-1)) + sampled*max(1, length(k.n))
}

// bits tells what Bits is, of a configuration that may be.
func (k known) bits(c api.Config) int {
	return k.text(c) + k.more(c)
}

// steps tells what Steps is, of a configuration that may be.
func (k known) steps(c api.Config) int {
	cost := 0
	for i, l := range k.lens {
		cost += k.counts[i] * l
	}
	shaped := 1
	if k.n > 0 {
		shaped = max(1, (cost+k.n-1)/k.n)
	}
	rows := []int{1: 8, 2: shaped, 3: 8, 4: 0}
	all := rows[c.Shape]
	if c.Shape == 4 {
		all = 1 + rows[c.Inner]
	}
	return all * []int{1: 1, 2: 4, 3: 3}[c.Kind] * c.Sample
}

// prices tells what each configuration needs, in the order of All.
func (k known) prices() []price {
	var l []price
	for _, c := range config.All() {
		l = append(l, price{config: c, bits: k.bits(c), steps: k.steps(c)})
	}
	return l
}

// price is what a configuration needs.
type price struct {
	config api.Config
	bits   int
	steps  int
}

// cost tells what that costs.
func (p price) cost(w api.Weights) int {
	return p.bits*w.Bits + p.steps*w.Steps
}

// choice tells which configuration is the best one.
func choice(l []price, w api.Weights) api.Config {
	best := l[0]
	for _, p := range l {
		if p.cost(w) < best.cost(w) {
			best = p
		}
	}
	return best.config
}

// told answers what Bits and Steps tell of each configuration.
func told(counts []int) []price {
	var l []price
	for _, c := range config.All() {
		l = append(l, price{config: c, bits: planner.Bits(c, counts), steps: planner.Steps(c, counts)})
	}
	return l
}

// of answers the counts of a text.
func of(text string) []int {
	counts := make([]int, symbols)
	for i := range len(text) {
		counts[text[i]]++
	}
	return counts
}

// alone answers counts of one symbol, n times.
func alone(c byte, n int) []int {
	counts := make([]int, symbols)
	counts[c] = n
	return counts
}

// with answers counts, but one of another number.
func with(counts []int, c int, n int) []int {
	l := slices.Clone(counts)
	l[c] = n
	return l
}

// alike answers counts that are all n.
func alike(n int) []int {
	return slices.Repeat([]int{n}, symbols)
}

// mixed answers counts of a fixed row of numbers, n symbols together.
func mixed(n int) []int {
	counts := make([]int, symbols)
	x := uint64(88172645463325252)
	for range n {
		x ^= x << 13
		x ^= x >> 7
		x ^= x << 17
		counts[x>>20%61*(x>>40%5)]++
	}
	return counts
}

// steep answers counts of which each is what two ahead of it are together: the codes are as long as can be.
func steep() []int {
	counts := make([]int, symbols)
	a, b := 1, 1
	for i := range 18 {
		counts[3*i+200] = a
		a, b = b, a+b
	}
	return counts
}

// several are counts that may be.
func several() map[string][]int {
	return map[string][]int{
		"none":              make([]int, symbols),
		"0 once":            alone(0, 1),
		"a once":            alone('a', 1),
		"255 once":          alone(255, 1),
		"0 often":           alone(0, 700),
		"a often":           alone('a', 5000),
		"a all":             alone('a', longest),
		"255 all":           alone(255, longest),
		"two alike":         of("ab"),
		"two unlike":        of("aaaab"),
		"two far":           with(alone(0, 3), 255, 4096),
		"two all":           with(alone('a', 1), 'b', longest-1),
		"three":             of("abc"),
		"abracadabra":       of("abracadabra"),
		"mississippi":       of("mississippi"),
		"all once":          alike(1),
		"all alike":         alike(32),
		"all but 0":         with(alike(31), 0, 0),
		"all but 255":       with(alike(3), 255, 0),
		"one far more":      with(alike(1), 'x', longest-255),
		"0 far more":        with(alike(2), 0, 4000),
		"0 more without 1":  with(with(alike(1), 0, 1000), 1, 0),
		"steep":             steep(),
		"mixed":             mixed(3000),
		"mixed all":         mixed(longest),
		"mixed with one":    with(mixed(4000), 250, 2000),
		"few, one bit each": with(with(with(make([]int, symbols), 1, 500), 16, 300), 128, 30),
	}
}

// around are numbers of symbols around whole multiples of lengths of blocks and of samples.
func around() []int {
	l := []int{0, 1, 2, 3, 4, 5, 6, 7, 8, 9, 12, 3 * 16, 5*64 + 1, 2*64 - 1, 3*1024 - 1, 3 * 1024, 3*1024 + 1, 2*256 + 16, 7 * 1024, 4096 + 1024, 4096 + 256 + 64 + 16 + 1}
	for _, n := range []int{16, 32, 64, 128, 256, 512, 1024, 2048, 4096, longest} {
		for d := -1; d <= 1; d++ {
			if n+d <= longest {
				l = append(l, n+d)
			}
		}
	}
	return l
}

// wrong are counts that may not be.
func wrong() map[string][]int {
	return map[string][]int{
		"nil":                          nil,
		"no counts":                    {},
		"one":                          {1},
		"255":                          make([]int, 255),
		"257":                          make([]int, 257),
		"255 with symbols":             alike(1)[:255],
		"257 with symbols":             append(alike(1), 1),
		"512":                          make([]int, 512),
		"first below 0":                alone(0, -1),
		"last below 0":                 alone(255, -1),
		"below 0 among others":         with(alike(3), 77, -1),
		"together 0":                   with(alone(0, 1), 1, -1),
		"together 0, below 0 first":    with(alone(0, -1), 1, 1),
		"together as many as may be":   with(alone(0, longest+1), 255, -1),
		"one more than may be":         alone('a', longest+1),
		"one more together":            with(alone('a', longest), 'b', 1),
		"one more together, last":      with(alone(0, longest), 255, 1),
		"33 each":                      alike(33),
		"one more, all":                with(alike(32), 9, 33),
		"far more":                     alone('a', 1<<20),
		"far more than layer 11 takes": alone('a', 1<<20+1),
		"2^32":                         alone('a', 1<<32),
		"least":                        alone('a', math.MinInt),
		"greatest":                     alone('a', math.MaxInt),
		"greatest and one":             with(alone(0, 1), 1, math.MaxInt),
		"one and greatest":             with(alone(0, math.MaxInt), 1, 1),
		"all greatest":                 alike(math.MaxInt),
		"all least":                    alike(math.MinInt),
		"round to 0":                   with(with(alone(0, math.MaxInt), 1, math.MaxInt), 2, 2),
		"round to 0, few first":        with(with(alone(0, 2), 1, math.MaxInt), 2, math.MaxInt),
		"round to 0, least":            with(alone(0, math.MinInt), 1, math.MinInt),
		"round to 0, 2^62":             with(with(with(alone(0, 1<<62), 1, 1<<62), 2, 1<<62), 3, 1<<62),
		"round to 5":                   with(with(alone(0, math.MaxInt), 1, math.MaxInt), 2, 7),
		"least and greatest":           with(with(alone(0, math.MinInt), 1, math.MaxInt), 2, 1),
		"round to 0, all":              alike(1 << 56),
		"32 bits to 0":                 alike(1 << 24),
	}
}

// refused are configurations that may not be.
func refused() []api.Config {
	l := []api.Config{
		{}, {Shape: 1}, {Shape: 1, Kind: 1}, {Kind: 1, Sample: 1}, {Shape: 1, Sample: 1},
		{Shape: 1, Inner: 1, Kind: 1, Sample: 1}, {Shape: 2, Log: 4, Kind: 1, Sample: 1}, {Shape: 3, Inner: 1, Log: 4, Kind: 1, Sample: 1},
		{Shape: 4, Kind: 1, Sample: 1}, {Shape: 4, Inner: 4, Log: 4, Kind: 1, Sample: 1}, {Shape: 4, Inner: 2, Log: 5, Kind: 1, Sample: 1},
	}
	for _, c := range []api.Config{{Shape: 1, Kind: 1, Sample: 1}, {Shape: 2, Kind: 3, Sample: 64}, {Shape: 4, Inner: 2, Log: 8, Kind: 2, Sample: 8}} {
		for _, n := range []int{math.MinInt, -64, -8, -4, -2, -1, 5, 7, 9, 13, 14, 65, 128, 1 << 32, 1<<32 + 4, math.MaxInt} {
			for i := range 5 {
				other := c
				*[]*int{&other.Shape, &other.Inner, &other.Log, &other.Kind, &other.Sample}[i] = n
				l = append(l, other)
			}
		}
		for _, n := range []int{0, 3, 6, 12, 24, 48, 63} {
			other := c
			other.Sample = n
			l = append(l, other)
		}
		for _, n := range []int{0, 4} {
			other := c
			other.Kind = n
			l = append(l, other)
		}
	}
	return l
}

// weights are weights that may be.
func weights() []api.Weights {
	return []api.Weights{
		{}, {Bits: 1}, {Steps: 1}, {Bits: 1, Steps: 1}, {Bits: 1, Steps: 10}, {Bits: 1, Steps: 100}, {Bits: 1, Steps: 300}, {Bits: 1, Steps: 1000}, {Bits: 1, Steps: 3000}, {Bits: 2, Steps: 15000}, {Bits: 3, Steps: 77}, {Bits: 10, Steps: 1},
		{Bits: mostWeight}, {Steps: mostWeight}, {Bits: mostWeight, Steps: mostWeight}, {Bits: mostWeight, Steps: 1}, {Bits: 1, Steps: mostWeight}, {Bits: mostWeight - 1, Steps: mostWeight - 1},
	}
}

// wrongWeights are weights that may not be.
func wrongWeights() []api.Weights {
	var l []api.Weights
	for _, n := range []int{math.MinInt, -mostWeight, -2, -1, mostWeight + 1, mostWeight + 2, 1 << 17, 1 << 32, 1<<32 + 1, 1 << 62, math.MaxInt} {
		l = append(l, api.Weights{Bits: n}, api.Weights{Steps: n}, api.Weights{Bits: n, Steps: 1}, api.Weights{Bits: 1, Steps: n}, api.Weights{Bits: n, Steps: n}, api.Weights{Bits: n, Steps: mostWeight}, api.Weights{Bits: mostWeight, Steps: n})
	}
	return l
}

// lengths are how many bits rows have.
func lengths() []int {
	return []int{0, 1, 2, 14, 15, 16, 29, 30, 31, 63, 64, 65, 104, 105, 119, 120, 121, 127, 128, 129, 240, 241, 511, 512, 513, 600, 1023, 1024, 1025, 8192, 8193, mostBits - 1, mostBits}
}

// between answers numbers of bits that are 1, of n bits, and some that n bits do not have.
func between(n int) []int {
	return []int{math.MinInt, -2, -1, 0, 1, 2, 3, 5, 7, 8, 9, n / 64, n / 9, n / 8, n / 5, n / 4, n/4 + 1, n / 3, n/3 + 1, n/2 - 1, n / 2, n/2 + 1, n - n/3, n - 2, n - 1, n, n + 1, n + 2, 2*n + 3, mostBits + 1, math.MaxInt}
}

// P21.1 Row: kinds that are, and that are none, lengths and ones that may be, and that may not.
func TestRow(t *testing.T) {
	for kind := -1; kind <= 5; kind++ {
		for _, n := range append(lengths(), math.MinInt, math.MinInt+1, -mostBits, -512, -1, mostBits+1, 1<<32, 1<<32+600, math.MaxInt-511, math.MaxInt) {
			for _, ones := range between(min(max(n, -1), 1<<40)) {
				if got, want := planner.Row(kind, n, ones), rowByWords(kind, n, ones); got != want {
					t.Errorf("Row(%d, %d, %d) = %d, want %d", kind, n, ones, got, want)
				}
			}
		}
	}
	for _, kind := range []int{math.MinInt, -3, -2, 6, 255, 256, 257, 1<<32 + 1, math.MaxInt} {
		if got := planner.Row(kind, 600, 5); got != 0 {
			t.Errorf("Row(%d, 600, 5) = %d, want 0", kind, got)
		}
	}
}

// P21.1 Row: all short rows, and where KindFano parts places.
func TestRowShort(t *testing.T) {
	for kind := -1; kind <= 5; kind++ {
		for n := range 260 {
			for ones := -1; ones <= n+1; ones++ {
				if got, want := planner.Row(kind, n, ones), rowByWords(kind, n, ones); got != want {
					t.Errorf("Row(%d, %d, %d) = %d, want %d", kind, n, ones, got, want)
				}
			}
		}
	}
}

// P21.1 Row: some, reckoned by hand.
func TestRowWritten(t *testing.T) {
	for _, x := range []struct{ kind, n, ones, want int }{
		{1, 600, 5, 824}, {1, 0, 0, 32}, {1, 1, 0, 49}, {1, 64, 64, 112}, {1, 65, 0, 129}, {1, 511, 9, 671}, {1, 512, 9, 704}, {1, 513, 9, 721}, {1, mostBits, 0, mostBits + 32*2049 + 16*16384},
		{2, 0, 0, 64}, {2, 1, 1, 81}, {2, 15, 7, 81}, {2, 16, 0, 98}, {2, 120, 60, 200}, {2, 121, 60, 281}, {2, 600, 5, 40*17 + 5*64},
		{3, 0, 0, 65}, {3, 1, 0, 66}, {3, 1, 1, 67}, {3, 100, 1, 6 + 3 + 64}, {3, 600, 5, 5*6 + 5 + 9 + 1 + 64}, {3, 600, 0, 665}, {3, 600, 600, 1265}, {3, 600, 300, 300 + 300 + 300 + 1 + 64}, {3, 600, 301, 301 + 600 + 1 + 64}, {3, mostBits, 1, 20 + 1 + 1 + 1 + 64},
		{0, 600, 5, 0}, {4, 600, 5, 0}, {1, 600, 601, 0}, {1, 600, -1, 0}, {1, -1, -1, 0}, {1, -1, 0, 0}, {1, mostBits + 1, 0, 0}, {1, 0, 1, 0}, {2, 0, 1, 0}, {3, 0, 1, 0},
	} {
		if got := planner.Row(x.kind, x.n, x.ones); got != x.want {
			t.Errorf("Row(%d, %d, %d) = %d, want %d", x.kind, x.n, x.ones, got, x.want)
		}
	}
}

// rowOf answers a row of n bits whose ones are put by a step that has no divisor with n.
func rowOf(n int, ones int) api.Bits {
	row, _ := bits.New(n)
	step := n/2 + 1
	for n > 0 && divisor(step, n) > 1 {
		step++
	}
	for i := range ones {
		at := i * step % n
		row.W[at/64] |= 1 << (at % 64)
	}
	return row
}

// divisor answers the greatest divisor of both.
func divisor(a int, b int) int {
	for b > 0 {
		a, b = b, a%b
	}
	return a
}

// P21.1 Row: against layer 10's Size of rows that are built: of KindPlain and KindFano it is that, of KindRrr no less.
func TestRowBuilt(t *testing.T) {
	t.Parallel()
	for _, n := range lengths() {
		for _, ones := range between(n) {
			if ones < 0 || ones > n {
				continue
			}
			for kind := 1; kind <= 3; kind++ {
				x, e := vector.Build(kind, rowOf(n, ones))
				if e != api.OK { // KindFano of so many bits
					continue
				}
				got, size := planner.Row(kind, n, ones), vector.Size(x)
				if got < size || kind != 2 && got != size {
					t.Errorf("Row(%d, %d, %d) = %d, and layer 10's Size is %d", kind, n, ones, got, size)
				}
			}
		}
	}
}

// P21.1 Row: rows of KindRrr whose blocks need as much as they may.
func TestRowWorstBuilt(t *testing.T) {
	for _, n := range []int{15, 30, 120, 135, 240, 600, 8190} {
		row, _ := bits.New(n)
		ones := 0
		for i := range n {
			if i%15 < 7 {
				row.W[i/64] |= 1 << (i % 64)
				ones++
			}
		}
		x, _ := vector.Build(2, row)
		if got, size := planner.Row(2, n, ones), vector.Size(x); got != size {
			t.Errorf("Row(2, %d, %d) = %d, and layer 10's Size is %d", n, ones, got, size)
		}
	}
}

// wantOf checks Bits and Steps of all configurations, of counts that may be.
func wantOf(t *testing.T, name string, counts []int) {
	t.Helper()
	k, before := knownOf(counts), slices.Clone(counts)
	for _, c := range config.All() {
		if got, want := planner.Bits(c, counts), k.bits(c); got != want {
			t.Errorf("%s: Bits(%s) = %d, want %d", name, config.Name(c), got, want)
		}
		if got, want := planner.Steps(c, counts), k.steps(c); got != want {
			t.Errorf("%s: Steps(%s) = %d, want %d", name, config.Name(c), got, want)
		}
	}
	if !slices.Equal(counts, before) {
		t.Errorf("%s: the counts are changed", name)
	}
}

// P21.2, P21.3 Bits, P21.4 Steps: each configuration, counts of all kinds.
func TestCounts(t *testing.T) {
	t.Parallel()
	for name, counts := range several() {
		wantOf(t, name, counts)
	}
}

// P21.2, P21.3 Bits, P21.4 Steps: numbers of symbols around whole multiples of the lengths of blocks and of samples.
func TestAround(t *testing.T) {
	t.Parallel()
	for _, n := range around() {
		wantOf(t, "mixed", mixed(n))
	}
	for _, n := range []int{15, 16, 17, 64, 255, 256, 257, 1024, 4096, 4097, longest} {
		wantOf(t, "alone", alone(0, n))
	}
}

// P21.2, P21.3 Bits: some, reckoned by hand.
func TestBitsWritten(t *testing.T) {
	// Of abracadabra 11 symbols: a 5, b 2, r 2, c 1, d 1. 11 bits need 59 of KindPlain, 12 bits 60. With Sample 4 there are 3 samples, of 2 and of 4 bits.
	abra, none := of("abracadabra"), make([]int, symbols)
	samples := column + 60 + 3*2 + 3*4
	for _, x := range []struct {
		name   string
		counts []int
		want   int
	}{
		{"tree/plain/4", abra, 8*59 + samples},
		{"matrix/plain/4", abra, 8*59 + 256 + samples},
		{"shaped/plain/4", abra, 1536 + 59 + (6 + 48) + (4 + 48) + (2 + 48) + samples},
		{"boost-tree-4/plain/4", abra, 4096 + 8*59 + samples},
		{"boost-matrix-6/plain/4", abra, 4096 + 8*59 + 256 + samples},
		{"boost-shaped-12/plain/4", abra, 4096 + 1536 + 11*59 + samples},
		{"tree/plain/1", abra, 8*59 + column + 60 + 12*4 + 12*4},
		{"tree/plain/16", abra, 8*59 + column + 60 + 1 + 4},
		{"tree/rrr/4", abra, 8*81 + column + 81 + 3*2 + 3*4},
		{"tree/fano/16", abra, (76 + 87 + 87 + 73 + 76 + 70 + 80 + 82) + column + (3 + 1 + 1 + 1 + 64) + 1 + 4},
		{"boost-tree-4/fano/16", abra, 4096 + 8*87 + column + 70 + 1 + 4},
		{"tree/plain/1", none, 8*32 + column + 49 + 1 + 1},
		{"matrix/rrr/64", none, 8*64 + 256 + column + 81 + 1 + 1},
		{"shaped/fano/8", none, 1536 + column + 67 + 1 + 1},
		{"boost-matrix-4/plain/8", none, column + 49 + 1 + 1},
		{"boost-shaped-4/fano/8", none, column + 67 + 1 + 1},
		{"boost-tree-4/plain/64", alone('a', 35), 3*4096 + 8*(2*64+51) + column + 36 + 48 + 1 + 6},
		{"boost-shaped-4/plain/64", alone('a', 35), 3*(4096+1536) + 16*64*2 + 3*51 + column + 36 + 48 + 1 + 6},
		{"boost-shaped-8/plain/64", alone('a', 256), 4096 + 1536 + 255*(256+32+64) + column + (257 + 32 + 80) + 5*3 + 5*9},
		{"boost-shaped-8/plain/64", alone('a', 255), 4096 + 1536 + 255*(255+32+64) + column + (256 + 32 + 64) + 4*2 + 4*8},
		{"boost-shaped-8/plain/64", alone('a', 254), 4096 + 1536 + 254*(254+32+64) + column + (255 + 32 + 64) + 4*2 + 4*8},
	} {
		c, ok := config.Parse(x.name)
		if got := planner.Bits(c, x.counts); got != x.want || !ok {
			t.Errorf("Bits(%s) of %d symbols = %d, want %d", x.name, sum(x.counts), got, x.want)
		}
	}
}

// P21.4 Steps: some, reckoned by hand.
func TestStepsWritten(t *testing.T) {
	// Of abracadabra the codes need 23 bits of 11 symbols: 3 each, rounded up.
	abra, none := of("abracadabra"), make([]int, symbols)
	for _, x := range []struct {
		name   string
		counts []int
		want   int
	}{
		{"tree/plain/1", abra, 8}, {"matrix/plain/1", abra, 8}, {"shaped/plain/1", abra, 3}, {"boost-tree-4/plain/1", abra, 9}, {"boost-shaped-12/plain/1", abra, 4}, {"boost-matrix-8/plain/1", abra, 9},
		{"tree/rrr/1", abra, 32}, {"tree/fano/1", abra, 24}, {"shaped/rrr/64", abra, 3 * 4 * 64}, {"shaped/fano/8", abra, 3 * 3 * 8}, {"boost-shaped-4/rrr/2", abra, 4 * 4 * 2}, {"boost-tree-10/fano/16", abra, 9 * 3 * 16},
		{"tree/plain/1", none, 8}, {"shaped/plain/1", none, 1}, {"shaped/rrr/2", none, 8}, {"boost-shaped-4/plain/1", none, 2}, {"boost-matrix-4/fano/4", none, 108},
		{"shaped/plain/1", alone('a', longest), 1}, {"shaped/plain/1", of("ab"), 1}, {"shaped/plain/1", of("abc"), 2}, {"shaped/plain/1", alike(32), 8}, {"shaped/plain/1", of("abcd"), 2}, {"shaped/plain/1", of("aabcd"), 2}, {"shaped/plain/1", of("abcde"), 3},
	} {
		c, ok := config.Parse(x.name)
		if got := planner.Steps(c, x.counts); got != x.want || !ok {
			t.Errorf("Steps(%s) of %d symbols = %d, want %d", x.name, sum(x.counts), got, x.want)
		}
	}
}

// P21.2 Bits, P21.4 Steps: 0 of configurations that may not be.
func TestRefused(t *testing.T) {
	for _, c := range refused() {
		for _, counts := range [][]int{make([]int, symbols), of("abracadabra"), alike(32), nil} {
			if b, s := planner.Bits(c, counts), planner.Steps(c, counts); b != 0 || s != 0 {
				t.Errorf("Bits and Steps of %+v = %d, %d, want 0", c, b, s)
			}
		}
	}
}

// P21.2 Bits, P21.4 Steps: 0 of counts that may not be, which are not changed.
func TestWrongCounts(t *testing.T) {
	for name, counts := range wrong() {
		before := slices.Clone(counts)
		for _, c := range config.All() {
			if b, s := planner.Bits(c, counts), planner.Steps(c, counts); b != 0 || s != 0 {
				t.Errorf("%s: Bits and Steps of %s = %d, %d, want 0", name, config.Name(c), b, s)
			}
		}
		if !slices.Equal(counts, before) {
			t.Errorf("%s: the counts are changed", name)
		}
	}
}

// textOf answers a text that has these counts, in a fixed order that mixes them.
func textOf(counts []int) []byte {
	var text []byte
	for c, n := range counts {
		for range n {
			text = append(text, byte(c))
		}
	}
	x := uint64(88172645463325252)
	for i := len(text) - 1; i > 0; i-- {
		x ^= x << 13
		x ^= x >> 7
		x ^= x << 17
		j := int(x >> 20 % uint64(i+1))
		text[i], text[j] = text[j], text[i]
	}
	return text
}

// needed tells, by what layer 22 says of an index, how many bits the parts of one need that are built by c.
func needed(t *testing.T, c api.Config, turned api.Bwt, order []int) int {
	t.Helper()
	x, e := seq.Build(c.Shape, c.Inner, c.Kind, c.Log, turned.Last)
	if e != api.OK {
		t.Fatalf("layer 16 refuses %s: %d", config.Name(c), e)
	}
	row, _ := bits.New(len(order))
	var ends []uint64
	places := make([]uint64, (len(order)-1)/c.Sample+1)
	for r, begin := range order {
		if begin%c.Sample == 0 {
			row.W[r/64] |= 1 << (r % 64)
			ends = append(ends, uint64(begin/c.Sample))
			places[begin/c.Sample] = uint64(r)
		}
	}
	marks, _ := vector.Build(c.Kind, row)
	first, _ := ints.Of(ends)
	second, _ := ints.Make(max(1, length(len(order)-1)), places)
	return seq.Size(x) + column + vector.Size(marks) + first.Bits.N + second.Bits.N
}

// P21.2, P21.3 Bits, W5: no index that is built needs more; one without blocks whose rows are of KindPlain or KindFano needs that.
func TestBuilt(t *testing.T) {
	t.Parallel()
	for name, counts := range several() {
		if n := sum(counts); n > 1200 && name != "mixed with one" {
			continue
		}
		text := textOf(counts)
		turned, _ := bwt.Make(text)
		order, _ := suffix.Array(text)
		for i, c := range config.All() {
			if len(text) > 600 && i%5 > 0 {
				continue
			}
			got, size := planner.Bits(c, counts), needed(t, c, turned, order)
			if got < size || c.Shape != 4 && c.Kind != 2 && got != size {
				t.Errorf("%s: Bits(%s) = %d, and what is built needs %d", name, config.Name(c), got, size)
			}
		}
	}
}

// P21.5 Choose, P21.6: counts and weights of all kinds.
func TestChoose(t *testing.T) {
	t.Parallel()
	for name, counts := range several() {
		l, before := knownOf(counts).prices(), slices.Clone(counts)
		for _, w := range weights() {
			got, e := planner.Choose(counts, w)
			if want := choice(l, w); got != want || e != api.OK {
				t.Errorf("%s: Choose by %+v = %s, %d, want %s", name, w, config.Name(got), e, config.Name(want))
			}
		}
		if !slices.Equal(counts, before) {
			t.Errorf("%s: the counts are changed", name)
		}
	}
}

// P21.5 Choose: numbers of symbols around whole multiples of the lengths of blocks and of samples.
func TestChooseAround(t *testing.T) {
	t.Parallel()
	for _, n := range around() {
		l := knownOf(mixed(n)).prices()
		for _, w := range []api.Weights{{Bits: 1}, {Bits: 1, Steps: 50}, {Bits: 1, Steps: 2000}, {Steps: 1}} {
			got, e := planner.Choose(mixed(n), w)
			if want := choice(l, w); got != want || e != api.OK {
				t.Errorf("Choose of %d symbols by %+v = %s, %d, want %s", n, w, config.Name(got), e, config.Name(want))
			}
		}
	}
}

// P21.5 Choose: some that are known beforehand.
func TestChooseWritten(t *testing.T) {
	for _, x := range []struct {
		name   string
		counts []int
		w      api.Weights
		want   string
	}{
		{"all cost nothing", of("abracadabra"), api.Weights{}, "tree/plain/1"},
		{"all cost nothing, of no symbols", make([]int, symbols), api.Weights{}, "tree/plain/1"},
		{"steps of two", of("aaaaabbb"), api.Weights{Steps: 1}, "shaped/plain/1"},
		{"all shapes need 8 steps", alike(32), api.Weights{Steps: 1}, "tree/plain/1"},
		{"no symbols have no blocks, and one sample", make([]int, symbols), api.Weights{Bits: 1}, "boost-tree-4/plain/1"},
		{"steps of no symbols", make([]int, symbols), api.Weights{Steps: 1}, "shaped/plain/1"},
	} {
		got, e := planner.Choose(x.counts, x.w)
		if config.Name(got) != x.want || e != api.OK {
			t.Errorf("%s: Choose = %s, %d, want %s", x.name, config.Name(got), e, x.want)
		}
	}
}

// P21.5 Choose: of several that are equally good the first one is answered.
func TestChooseFirst(t *testing.T) {
	t.Parallel()
	ties := 0
	for name, counts := range several() {
		l := told(counts)
		for _, w := range weights() {
			got, _ := planner.Choose(counts, w)
			at, _ := config.Number(got)
			least := l[at].cost(w)
			for i, p := range l {
				if i < at && p.cost(w) <= least {
					t.Errorf("%s: Choose by %+v = %s, and %s, which is ahead, is as good", name, w, config.Name(got), config.Name(p.config))
				}
				if i > at && p.cost(w) == least {
					ties++
				}
			}
		}
	}
	if ties == 0 {
		t.Error("no two are equally good: nothing is tested")
	}
}

// P21.6: no other one is better, and what is chosen may be.
func TestNoneBetter(t *testing.T) {
	t.Parallel()
	for name, counts := range several() {
		l := told(counts)
		if len(l) != howMany {
			t.Fatalf("there are %d configurations, want %d", len(l), howMany)
		}
		for _, w := range weights() {
			got, e := planner.Choose(counts, w)
			if e != api.OK || !config.Check(got) {
				t.Errorf("%s: Choose by %+v = %+v, %d, which may not be", name, w, got, e)
			}
			cost := planner.Bits(got, counts)*w.Bits + planner.Steps(got, counts)*w.Steps
			for _, p := range l {
				if p.cost(w) < cost {
					t.Errorf("%s: Choose by %+v = %s, and %s is better", name, w, config.Name(got), config.Name(p.config))
				}
			}
		}
	}
}

// wantErrArg checks that Choose refuses counts or weights, which it does not change.
func wantErrArg(t *testing.T, name string, counts []int, w api.Weights) {
	t.Helper()
	before := slices.Clone(counts)
	if c, e := planner.Choose(counts, w); e != api.ErrArg || c != (api.Config{}) {
		t.Errorf("%s: Choose by %+v = %+v, %d, want zero, %d", name, w, c, e, api.ErrArg)
	}
	if !slices.Equal(counts, before) {
		t.Errorf("%s: the counts are changed", name)
	}
}

// P21.5 Choose: ErrArg of counts that may not be, by weights that may be, and that may not.
func TestChooseWrongCounts(t *testing.T) {
	for name, counts := range wrong() {
		for _, w := range slices.Concat(weights(), wrongWeights()) {
			wantErrArg(t, name, counts, w)
		}
	}
}

// P21.5 Choose: ErrArg of weights that may not be.
func TestChooseWrongWeights(t *testing.T) {
	for _, w := range wrongWeights() {
		for _, counts := range [][]int{make([]int, symbols), of("abracadabra"), alike(32)} {
			wantErrArg(t, "weights", counts, w)
		}
	}
}

// R7: what room counts have behind their end is nobody's.
func TestRoom(t *testing.T) {
	whole := append(of("abracadabra"), 1, -1, math.MaxInt)
	c, _ := config.Parse("shaped/plain/4")
	if got, want := planner.Bits(c, whole[:symbols]), planner.Bits(c, of("abracadabra")); got != want {
		t.Errorf("Bits with room behind = %d, want %d", got, want)
	}
	if planner.Bits(c, whole) != 0 || planner.Bits(c, whole[:symbols-1]) != 0 {
		t.Error("Bits takes more counts, or fewer")
	}
	if whole[symbols] != 1 || whole[symbols+1] != -1 || whole[symbols+2] != math.MaxInt {
		t.Error("what is behind the counts is changed")
	}
}

// R4, R8: the same call answers the same, whichever calls are made between.
func TestAgain(t *testing.T) {
	t.Parallel()
	c, _ := config.Parse("boost-shaped-4/fano/2")
	shaped, _ := config.Parse("shaped/fano/2")
	w := api.Weights{Bits: 1, Steps: 100}
	for name, counts := range several() {
		b, s, p := planner.Bits(c, counts), planner.Steps(c, counts), planner.Bits(shaped, counts)
		chosen, _ := planner.Choose(counts, w)
		for range 10 {
			planner.Bits(c, mixed(999))
			planner.Choose(alike(7), w)
			got, e := planner.Choose(counts, w)
			if planner.Bits(c, counts) != b || planner.Steps(c, counts) != s || planner.Bits(shaped, counts) != p || got != chosen || e != api.OK {
				t.Fatalf("%s: another answer", name)
			}
		}
	}
}

// The chapter's example.
func TestExample(t *testing.T) {
	if got := planner.Row(api.KindPlain, 600, 5); got != 824 {
		t.Errorf("Row(KindPlain, 600, 5) = %d, want 824", got)
	}
}
