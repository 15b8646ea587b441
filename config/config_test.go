package config_test

import (
	"cmp"
	"fmt"
	"math"
	"slices"
	"strings"
	"testing"

	"haystack/api"
	"haystack/config"
)

const howMany = 378 // configurations, as the chapter says

// The chapter's numbers and words, written out.
var (
	logs    = []int{4, 6, 8, 10, 12}
	samples = []int{1, 2, 4, 8, 16, 32, 64}
	shapes  = []string{1: "tree", 2: "shaped", 3: "matrix"}
	kinds   = []string{1: "plain", 2: "rrr", 3: "fano"}
)

// mayBe tells by the chapter's words whether a configuration may be.
func mayBe(c api.Config) bool {
	if !slices.Contains([]int{1, 2, 3}, c.Kind) || !slices.Contains(samples, c.Sample) {
		return false
	}
	switch c.Shape {
	case 1, 2, 3:
		return c.Inner == 0 && c.Log == 0
	case 4:
		return slices.Contains([]int{1, 2, 3}, c.Inner) && slices.Contains(logs, c.Log)
	}
	return false
}

// nameByWords tells by the chapter's words the name of a configuration that may be.
func nameByWords(c api.Config) string {
	end := fmt.Sprintf("/%s/%d", kinds[c.Kind], c.Sample)
	if c.Shape == 4 {
		return fmt.Sprintf("boost-%s-%d", shapes[c.Inner], c.Log) + end
	}
	return shapes[c.Shape] + end
}

// around are configurations in the midst of which all are that may be.
func around(f func(c api.Config)) {
	for shape := -1; shape <= 6; shape++ {
		for inner := -1; inner <= 5; inner++ {
			for log := -1; log <= 14; log++ {
				for kind := -1; kind <= 5; kind++ {
					for sample := -2; sample <= 130; sample++ {
						f(api.Config{Shape: shape, Inner: inner, Log: log, Kind: kind, Sample: sample})
					}
				}
			}
		}
	}
}

// order tells which of two configurations is ahead in All.
func order(a, b api.Config) int {
	return cmp.Or(cmp.Compare(a.Shape, b.Shape), cmp.Compare(a.Inner, b.Inner), cmp.Compare(a.Log, b.Log), cmp.Compare(a.Kind, b.Kind), cmp.Compare(a.Sample, b.Sample))
}

// all are those that may be, in order, sought among those around.
func all() []api.Config {
	var l []api.Config
	around(func(c api.Config) {
		if mayBe(c) {
			l = append(l, c)
		}
	})
	slices.SortFunc(l, order)
	return l
}

// byName are those that may be, by their names.
func byName() map[string]api.Config {
	m := map[string]api.Config{}
	for _, c := range all() {
		m[nameByWords(c)] = c
	}
	return m
}

// names are the names of those that may be, in order.
func names() []string {
	var l []string
	for _, c := range all() {
		l = append(l, nameByWords(c))
	}
	return l
}

// fields are where a configuration has its numbers.
func fields(c *api.Config) []*int {
	return []*int{&c.Shape, &c.Inner, &c.Log, &c.Kind, &c.Sample}
}

// far are numbers that no field has.
func far() []int {
	return []int{math.MinInt, math.MinInt + 1, math.MinInt + 4, math.MinInt32, -1 << 32, -256, -64, -4, -3, -2, -1, 128, 255, 256, 257, 1 << 16, math.MaxInt32, 1 << 32, 1<<32 + 1, 1<<32 + 4, 1 << 62, math.MaxInt - 1, math.MaxInt}
}

// wantRefused checks that a configuration may not be: no number, no name.
func wantRefused(t *testing.T, c api.Config) {
	t.Helper()
	if config.Check(c) {
		t.Errorf("Check(%+v) = true", c)
	}
	if n, ok := config.Number(c); n != 0 || ok {
		t.Errorf("Number(%+v) = %d, %t, want 0, false", c, n, ok)
	}
	if s := config.Name(c); s != "" {
		t.Errorf("Name(%+v) = %q, want the empty text", c, s)
	}
}

// parser answers a check of Parse: what has one of the names is that one, all else is zero and false.
func parser(t *testing.T) func(s string) {
	known := byName()
	return func(s string) {
		t.Helper()
		want, is := known[s]
		if got, ok := config.Parse(s); got != want || ok != is {
			t.Errorf("Parse(%.60q) = %+v, %t, want %+v, %t", s, got, ok, want, is)
		}
	}
}

// P20.1 Check, Number and P20.2 Name: each configuration around those that may be.
func TestAround(t *testing.T) {
	t.Parallel()
	number := map[api.Config]int{}
	for i, c := range all() {
		number[c] = i
	}
	around(func(c api.Config) {
		want, is := number[c]
		if !is {
			wantRefused(t, c)
			return
		}
		if !config.Check(c) {
			t.Errorf("Check(%+v) = false", c)
		}
		if n, ok := config.Number(c); n != want || !ok {
			t.Errorf("Number(%+v) = %d, %t, want %d, true", c, n, ok, want)
		}
		if s := config.Name(c); s != nameByWords(c) {
			t.Errorf("Name(%+v) = %q, want %q", c, s, nameByWords(c))
		}
	})
}

// P20.1 Check: an inner shape and a log, or one of them, of a shape without blocks; a shape with blocks without one of them.
func TestOthersBlocks(t *testing.T) {
	for _, kind := range []int{1, 2, 3} {
		for _, sample := range samples {
			for shape := 1; shape <= 3; shape++ {
				for inner := 1; inner <= 4; inner++ {
					wantRefused(t, api.Config{Shape: shape, Inner: inner, Kind: kind, Sample: sample})
					for _, log := range logs {
						wantRefused(t, api.Config{Shape: shape, Log: log, Kind: kind, Sample: sample})
						wantRefused(t, api.Config{Shape: shape, Inner: inner, Log: log, Kind: kind, Sample: sample})
					}
				}
			}
			wantRefused(t, api.Config{Shape: 4, Kind: kind, Sample: sample})
			for i := 1; i <= 3; i++ {
				wantRefused(t, api.Config{Shape: 4, Inner: i, Kind: kind, Sample: sample})
			}
			for _, log := range logs {
				wantRefused(t, api.Config{Shape: 4, Log: log, Kind: kind, Sample: sample})
				wantRefused(t, api.Config{Shape: 4, Inner: 4, Log: log, Kind: kind, Sample: sample})
			}
		}
	}
}

// P20.1 Check: numbers that are far from all that may be, the least and the greatest int among them, in each field, and in all.
func TestFar(t *testing.T) {
	wantRefused(t, api.Config{})
	for _, n := range far() {
		for _, c := range all() {
			for i := range fields(&c) {
				other := c
				*fields(&other)[i] = n
				wantRefused(t, other)
			}
		}
		wantRefused(t, api.Config{Shape: n, Inner: n, Log: n, Kind: n, Sample: n})
	}
}

// P20.1 Check: powers of 2 that no samples have.
func TestFarPowers(t *testing.T) {
	for i := 7; i < 64; i++ {
		wantRefused(t, api.Config{Shape: 1, Kind: 1, Sample: 1 << i})
		wantRefused(t, api.Config{Shape: 4, Inner: 1, Log: 4, Kind: 1, Sample: -1 << i})
	}
}

// P20.1 All, P20.3: 378, each may be, no two alike, in the chapter's order.
func TestAll(t *testing.T) {
	got := config.All()
	if len(got) != howMany {
		t.Errorf("All has %d configurations, want %d", len(got), howMany)
	}
	for i, c := range got {
		if !mayBe(c) || !config.Check(c) {
			t.Errorf("All has %+v, which may not be", c)
		}
		if i > 0 && order(got[i-1], c) >= 0 {
			t.Errorf("All has %+v ahead of %+v", got[i-1], c)
		}
	}
	if !slices.Equal(got, all()) {
		t.Errorf("All = %+v, want %+v", got, all())
	}
}

// P20.1 All: which ones stand at its beginning, where shapes change, and at its end.
func TestAllPlaces(t *testing.T) {
	l := config.All()
	if len(l) != howMany {
		t.Fatalf("All has %d configurations, want %d", len(l), howMany)
	}
	for at, want := range map[int]api.Config{
		0:   {Shape: 1, Kind: 1, Sample: 1},
		1:   {Shape: 1, Kind: 1, Sample: 2},
		6:   {Shape: 1, Kind: 1, Sample: 64},
		7:   {Shape: 1, Kind: 2, Sample: 1},
		20:  {Shape: 1, Kind: 3, Sample: 64},
		21:  {Shape: 2, Kind: 1, Sample: 1},
		62:  {Shape: 3, Kind: 3, Sample: 64},
		63:  {Shape: 4, Inner: 1, Log: 4, Kind: 1, Sample: 1},
		84:  {Shape: 4, Inner: 1, Log: 6, Kind: 1, Sample: 1},
		167: {Shape: 4, Inner: 1, Log: 12, Kind: 3, Sample: 64},
		168: {Shape: 4, Inner: 2, Log: 4, Kind: 1, Sample: 1},
		377: {Shape: 4, Inner: 3, Log: 12, Kind: 3, Sample: 64},
	} {
		if l[at] != want {
			t.Errorf("All has %+v at %d, want %+v", l[at], at, want)
		}
		if n, ok := config.Number(want); n != at || !ok {
			t.Errorf("Number(%+v) = %d, %t, want %d, true", want, n, ok, at)
		}
	}
}

// P20.1 Number: of each of All its place, and true.
func TestNumber(t *testing.T) {
	for i, c := range config.All() {
		if n, ok := config.Number(c); n != i || !ok {
			t.Errorf("Number(%+v) = %d, %t, want %d, true", c, n, ok, i)
		}
	}
}

// R3, R4: what All answers is the caller's own, the room behind its end too; nothing that is done with it changes what others are answered.
func TestAllOwn(t *testing.T) {
	first, second := config.All(), config.All()
	whole := first[:cap(first)]
	for i := range whole {
		whole[i] = api.Config{Shape: -1, Inner: i, Log: i, Kind: i, Sample: i}
	}
	if !slices.Equal(second, all()) {
		t.Error("two answers of All share memory")
	}
	_ = append(second, api.Config{Shape: -2})
	if !slices.Equal(config.All(), all()) {
		t.Error("All answers another list behind a change of an answer")
	}
	for i, c := range all() {
		n, is := config.Number(c)
		got, ok := config.Parse(nameByWords(c))
		if n != i || !is || got != c || !ok || config.Name(c) != nameByWords(c) {
			t.Errorf("behind a change of an answer of All, %+v is number %d, %t, and its name that of %+v, %t", c, n, is, got, ok)
		}
	}
}

// P20.2 Name: each name is as the chapter says, and no two are alike.
func TestNames(t *testing.T) {
	seen := map[string]int{}
	for _, c := range config.All() {
		s := config.Name(c)
		if s != nameByWords(c) {
			t.Errorf("Name(%+v) = %q, want %q", c, s, nameByWords(c))
		}
		seen[s]++
	}
	if len(seen) != howMany || seen[""] > 0 {
		t.Errorf("there are %d names, the empty text %d times among them", len(seen), seen[""])
	}
}

// P20.2 Name: some, written out.
func TestNamesWritten(t *testing.T) {
	for want, c := range map[string]api.Config{
		"tree/plain/1":            {Shape: 1, Kind: 1, Sample: 1},
		"shaped/rrr/2":            {Shape: 2, Kind: 2, Sample: 2},
		"matrix/fano/64":          {Shape: 3, Kind: 3, Sample: 64},
		"boost-tree-4/plain/4":    {Shape: 4, Inner: 1, Log: 4, Kind: 1, Sample: 4},
		"boost-tree-6/fano/8":     {Shape: 4, Inner: 1, Log: 6, Kind: 3, Sample: 8},
		"boost-shaped-8/rrr/16":   {Shape: 4, Inner: 2, Log: 8, Kind: 2, Sample: 16},
		"boost-matrix-10/rrr/32":  {Shape: 4, Inner: 3, Log: 10, Kind: 2, Sample: 32},
		"boost-matrix-12/fano/64": {Shape: 4, Inner: 3, Log: 12, Kind: 3, Sample: 64},
	} {
		if got := config.Name(c); got != want {
			t.Errorf("Name(%+v) = %q, want %q", c, got, want)
		}
		if got, ok := config.Parse(want); got != c || !ok {
			t.Errorf("Parse(%q) = %+v, %t, want %+v, true", want, got, ok, c)
		}
	}
}

// P20.2 Parse, P20.3: Parse of Name is it, and Name of what is parsed is the name.
func TestParse(t *testing.T) {
	for _, c := range all() {
		if got, ok := config.Parse(config.Name(c)); got != c || !ok {
			t.Errorf("Parse of the name of %+v = %+v, %t", c, got, ok)
		}
		got, ok := config.Parse(nameByWords(c))
		if got != c || !ok || config.Name(got) != nameByWords(c) {
			t.Errorf("Parse(%q) = %+v, %t, want %+v, true", nameByWords(c), got, ok, c)
		}
	}
}

// P20.2 Parse: the empty text, and the names of those that may not be, which are the empty text too.
func TestParseEmpty(t *testing.T) {
	want := parser(t)
	want("")
	want(config.Name(api.Config{}))
	want(config.Name(api.Config{Shape: 4, Kind: 1, Sample: 1}))
}

// P20.2 Parse: each name with a byte left out; cut off at each place, at either end.
func TestParseLess(t *testing.T) {
	want := parser(t)
	for _, s := range names() {
		for i := range len(s) {
			want(s[:i] + s[i+1:])
			want(s[:i])
			want(s[i+1:])
		}
	}
}

// P20.2 Parse: each name with a byte more, any one, at each place.
func TestParseMore(t *testing.T) {
	t.Parallel()
	want := parser(t)
	for _, s := range names() {
		for i := range len(s) + 1 {
			for b := range 256 {
				want(s[:i] + string([]byte{byte(b)}) + s[i:])
			}
		}
	}
}

// P20.2 Parse: each name with a byte changed to any other one; from 128 up it is no UTF-8.
func TestParseChanged(t *testing.T) {
	t.Parallel()
	want := parser(t)
	for _, s := range names() {
		for i := range len(s) {
			for b := range 256 {
				want(s[:i] + string([]byte{byte(b)}) + s[i+1:])
			}
		}
	}
}

// P20.2 Parse: characters of several bytes, some of which look like those of names, and bytes that are no UTF-8, in the place of a byte, and between two.
func TestParseCharacters(t *testing.T) {
	t.Parallel()
	want := parser(t)
	odd := []string{"é", "ß", "ſ", "K", "–", "−", "‐", "／", "⁄", "１", "٤", "²", "𝟒", "\u00a0", "\u00ad", "\u0301", "\u200b", "\u2028", "\ufeff", "\ufffd", "\xff", "\xc0\xaf", "\xe2\x88", "\xed\xa0\x80", "\xf4\x90\x80\x80", "\x00\x00"}
	for _, s := range names() {
		for i := range len(s) {
			for _, o := range odd {
				want(s[:i] + o + s[i:])
				want(s[:i] + o + s[i+1:])
			}
		}
		for _, o := range odd {
			want(s + o)
		}
	}
}

// P20.2 Parse: capital letters, one, some and all.
func TestParseCapitals(t *testing.T) {
	want := parser(t)
	for _, s := range names() {
		want(strings.ToUpper(s))
		for i := range len(s) {
			want(s[:i] + strings.ToUpper(s[i:i+1]) + s[i+1:])
			want(strings.ToUpper(s[:i]) + s[i:])
		}
	}
}

// parts answers the words of a name and the marks between them.
func parts(s string) []string {
	var l []string
	from := 0
	for i := range len(s) {
		if s[i] == '-' || s[i] == '/' {
			l = append(l, s[from:i], s[i:i+1])
			from = i + 1
		}
	}
	return append(l, s[from:])
}

// P20.2 Parse: a part, or some of them, left out, doubled, exchanged; the marks exchanged; a name behind another.
func TestParseParts(t *testing.T) {
	want := parser(t)
	for _, s := range names() {
		l := parts(s)
		for i := range l {
			for j := i; j <= len(l); j++ {
				front, mid, back := strings.Join(l[:i], ""), strings.Join(l[i:j], ""), strings.Join(l[j:], "")
				want(front + back)
				want(front + mid + mid + back)
				want(front + mid + "-" + mid + back)
				want(front + mid + "/" + mid + back)
				want(back + mid + front)
			}
			for j := range i {
				other := slices.Clone(l)
				other[i], other[j] = other[j], other[i]
				want(strings.Join(other, ""))
			}
		}
		for _, change := range []*strings.Replacer{strings.NewReplacer("-", "/"), strings.NewReplacer("/", "-"), strings.NewReplacer("-", "/", "/", "-"), strings.NewReplacer("/", "//"), strings.NewReplacer("-", "--"), strings.NewReplacer("/", ""), strings.NewReplacer("-", ""), strings.NewReplacer("/", "\\"), strings.NewReplacer("-", "_")} {
			want(change.Replace(s))
		}
		for _, more := range []string{" ", "\t", "\n", "\x00", "-", "/", ".", "0", "1", s, "/" + s, "-" + s} {
			want(s + more)
			want(more + s)
		}
	}
}

// written are numbers as they may be written, and as they may not.
func written() []string {
	l := []string{"", "-", "+", " ", "0", "00", "01", "04", "08", "016", "0064", "-0", "-1", "-4", "-8", "-64", "+0", "+1", "+4", "+8", "+64", "--4", "+-4", " 4", "4 ", "4.0", "4.", ".4", "4e0", "4,0", "1_6", "0x8", "0b100", "0o4", "1e1", "a", "x8", "8x", "0.0", "inf", "NaN"}
	for n := range 140 {
		l = append(l, fmt.Sprint(n), fmt.Sprintf("0%d", n), fmt.Sprintf("+%d", n), fmt.Sprintf("-%d", n))
	}
	// Each of these is 4, 8, 16, or 64, where it is taken modulo 2^8, 2^16, 2^32, 2^63, 2^64 or 2^128.
	for _, big := range []string{"260", "264", "65540", "65552", "4294967300", "4294967304", "9223372036854775812", "9223372036854775816", "18446744073709551620", "18446744073709551624", "18446744073709551632", "18446744073709551680", "340282366920938463463374607431768211460"} {
		l = append(l, big, "-"+big)
	}
	return append(l, "2147483647", "2147483648", "9223372036854775807", "9223372036854775808", "-9223372036854775808", "-18446744073709551612", strings.Repeat("9", 100), strings.Repeat("4", 1000), strings.Repeat("0", 30)+"4", "1"+strings.Repeat("0", 64))
}

// P20.2 Parse: signs and noughts ahead of digits, digits that are no Log or Sample, numbers that are greater than an int takes.
func TestParseNumbers(t *testing.T) {
	want := parser(t)
	for _, kind := range kinds[1:] {
		for _, n := range written() {
			for _, shape := range shapes[1:] {
				want(shape + "/" + kind + "/" + n)
				want(shape + "-" + n + "/" + kind + "/8")
				for _, log := range []string{"4", "12"} {
					want("boost-" + shape + "-" + log + "/" + kind + "/" + n)
				}
				for _, sample := range []string{"1", "64"} {
					want("boost-" + shape + "-" + n + "/" + kind + "/" + sample)
				}
			}
		}
	}
}

// P20.2 Parse: all ways to put words of names, and some that are none, into places of names.
func TestParseWords(t *testing.T) {
	t.Parallel()
	want := parser(t)
	words := []string{"", "tree", "shaped", "matrix", "boost", "plain", "rrr", "fano", "1", "4", "12", "64", "0", "none", "trees", "tre"}
	for _, a := range words {
		for _, b := range words {
			want(a + "/" + b)
			want(a + "-" + b)
			for _, c := range words {
				want(a + "/" + b + "/" + c)
				want(a + "-" + b + "/" + c)
				for _, d := range words {
					want(a + "-" + b + "/" + c + "/" + d)
					for _, e := range []string{"", "1", "4", "64", "rrr", "0"} {
						want(a + "-" + b + "-" + c + "/" + d + "/" + e)
						want(a + "/" + b + "/" + c + "/" + d + "/" + e)
					}
				}
			}
		}
	}
}

// R1, P20.2 Parse: long texts end as short ones do.
func TestParseLong(t *testing.T) {
	want := parser(t)
	for _, n := range []int{5, 6, 24, 25, 1000, 1 << 20} {
		for _, s := range []string{"-", "/", "4", "0", "t", "tree", "-/", "tree/plain/", "boost-tree-4/rrr/", "\xff", "é", "\x00"} {
			want(strings.Repeat(s, n))
			want("tree/plain/1" + strings.Repeat(s, n))
			want(strings.Repeat(s, n) + "tree/plain/1")
			want("tree/" + strings.Repeat(s, n) + "/1")
			want("boost-tree-" + strings.Repeat(s, n) + "/plain/1")
		}
	}
}

// R8: the same call answers the same.
func TestAgain(t *testing.T) {
	for i, c := range all() {
		for range 20 {
			n, ok := config.Number(c)
			got, is := config.Parse(nameByWords(c))
			if !config.Check(c) || n != i || !ok || config.Name(c) != nameByWords(c) || got != c || !is {
				t.Fatalf("%+v is another one: %d, %t, %q, %+v, %t", c, n, ok, config.Name(c), got, is)
			}
		}
	}
}

// The chapter's example.
func TestExample(t *testing.T) {
	want := api.Config{Shape: 4, Inner: 2, Log: 8, Kind: 2, Sample: 16}
	got, ok := config.Parse("boost-shaped-8/rrr/16")
	if got != want || !ok || !config.Check(got) || config.Name(want) != "boost-shaped-8/rrr/16" {
		t.Errorf("Parse(boost-shaped-8/rrr/16) = %+v, %t, and its name is %q", got, ok, config.Name(want))
	}
	if n, is := config.Number(want); n != 221 || !is || config.All()[n] != want {
		t.Errorf("Number of boost-shaped-8/rrr/16 = %d, %t", n, is)
	}
}
