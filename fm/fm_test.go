package fm_test

import (
	"bytes"
	"cmp"
	"fmt"
	"math"
	"reflect"
	"slices"
	"testing"

	"haystack/api"
	"haystack/bits"
	"haystack/bwt"
	"haystack/config"
	"haystack/fm"
	"haystack/ints"
	"haystack/seq"
	"haystack/vector"
)

const longest = 1 << 13 // MaxText, written out as the document does

// scattered answers n bytes of a fixed row that has all of them.
func scattered(n int) []byte {
	text := make([]byte, n)
	x := uint64(88172645463325252)
	for i := range text {
		x ^= x << 13
		x ^= x >> 7
		x ^= x << 17
		text[i] = byte(x >> 40)
	}
	return text
}

// few answers n bytes of a fixed row that has few of them, 0 and 255 among them.
func few(n int) []byte {
	text := scattered(n)
	for i, c := range text {
		text[i] = "aaaaaab\xff\x00"[c%9]
	}
	return text
}

// alone answers n times one byte.
func alone(c byte, n int) []byte {
	return bytes.Repeat([]byte{c}, n)
}

// turns answers n bytes, a and b by turns.
func turns(a byte, b byte, n int) []byte {
	return bytes.Repeat([]byte{a, b}, n/2+1)[:n]
}

// rising answers n bytes, each of them the one that comes behind the one ahead; 0 comes behind 255.
func rising(n int) []byte {
	text := make([]byte, n)
	for i := range text {
		text[i] = byte(i)
	}
	return text
}

// texts are the short texts.
func texts() [][]byte {
	return [][]byte{
		nil, {}, {0}, {255}, {97}, {0, 255}, {255, 0}, {0, 0}, {255, 255},
		[]byte("abracadabra"), []byte("mississippi"), []byte("aabaab\x00aab"), []byte("tobeornottobe"),
		alone(0, 20), alone(255, 70), alone(97, 128), turns(0, 255, 90), turns(98, 97, 65),
		rising(256), rising(300), few(40), few(300), scattered(17), scattered(300),
		slices.Concat(scattered(50), scattered(50), scattered(49)), slices.Concat(alone(97, 63), []byte("b"), alone(97, 64)),
	}
}

// longTexts are texts of as many bytes as a text has at most, or nearly so.
func longTexts() [][]byte {
	return [][]byte{
		alone(255, longest), alone(0, longest-1), turns(0, 255, longest), scattered(longest), few(longest), rising(longest),
		slices.Concat(scattered(longest/2), scattered(longest/2)),
	}
}

// tooLong are texts that are longer than a text is.
func tooLong() [][]byte {
	return [][]byte{scattered(longest + 1), alone(0, longest+1), few(2 * longest), rising(1 << 16)}
}

// far are numbers that are far from every place.
func far() []int {
	return []int{math.MinInt, math.MinInt + 1, math.MinInt32, -1 << 32, -longest, -2, -1, 1 << 20, math.MaxInt32, 1 << 32, 1<<32 + 1, math.MaxInt - longest, math.MaxInt - 1, math.MaxInt}
}

// some are configurations of each shape, each inner shape, each kind, each Log and each Sample, but not with one another.
func some() []api.Config {
	return []api.Config{
		{Shape: 1, Kind: 1, Sample: 1}, {Shape: 1, Kind: 2, Sample: 8}, {Shape: 1, Kind: 3, Sample: 64},
		{Shape: 2, Kind: 1, Sample: 4}, {Shape: 2, Kind: 2, Sample: 16}, {Shape: 2, Kind: 3, Sample: 2},
		{Shape: 3, Kind: 1, Sample: 32}, {Shape: 3, Kind: 2, Sample: 64}, {Shape: 3, Kind: 3, Sample: 4},
		{Shape: 4, Inner: 1, Log: 4, Kind: 2, Sample: 2}, {Shape: 4, Inner: 1, Log: 12, Kind: 1, Sample: 16},
		{Shape: 4, Inner: 2, Log: 6, Kind: 3, Sample: 1}, {Shape: 4, Inner: 2, Log: 10, Kind: 2, Sample: 32},
		{Shape: 4, Inner: 3, Log: 8, Kind: 1, Sample: 8}, {Shape: 4, Inner: 3, Log: 4, Kind: 3, Sample: 64},
	}
}

// wrong are configurations that may not be: one that may be, with one field of another number, and the zero value.
func wrong() []api.Config {
	l := []api.Config{{}, {Shape: 1, Inner: 1, Log: 4, Kind: 1, Sample: 1}, {Shape: 3, Inner: 2, Kind: 1, Sample: 1}, {Shape: 2, Log: 4, Kind: 1, Sample: 1}, {Shape: 4, Kind: 1, Sample: 1}, {Shape: 4, Inner: 4, Log: 4, Kind: 1, Sample: 1}}
	for _, n := range append(far(), 0, 5, 7, 13, 65, 128, 256, 257) {
		l = append(l,
			api.Config{Shape: n, Kind: 1, Sample: 1},
			api.Config{Shape: 2, Kind: n, Sample: 1},
			api.Config{Shape: 3, Kind: 1, Sample: n},
			api.Config{Shape: 4, Inner: n, Log: 4, Kind: 1, Sample: 1},
			api.Config{Shape: 4, Inner: 1, Log: n, Kind: 1, Sample: 1})
	}
	return l
}

// ordered answers the places of a text's ends in order, by sorting the ends themselves.
func ordered(text []byte) []int {
	l := make([]int, len(text)+1)
	for i := range l {
		l[i] = i
	}
	slices.SortFunc(l, func(i, j int) int { return bytes.Compare(text[i:], text[j:]) })
	return l
}

// countsOf answers by the document's words of each c how many ends there are that are empty, or begin with a byte less than c.
func countsOf(text []byte) []int {
	l := make([]int, 257)
	for c := range l {
		l[c] = 1
		for _, x := range text {
			if int(x) < c {
				l[c]++
			}
		}
	}
	return l
}

// length tells the length of a number: how often it is to be halved to be 0.
func length(x int) int {
	l := 0
	for ; x > 0; x /= 2 {
		l++
	}
	return l
}

// sure answers what a lower layer does not refuse.
func sure[T any](t *testing.T) func(x T, e api.Errno) T {
	return func(x T, e api.Errno) T {
		t.Helper()
		if e != api.OK {
			t.Fatalf("a layer below refuses: %d", e)
		}
		return x
	}
}

// made answers the index of a text by the chapter's words, without the package that is tested.
func made(t *testing.T, c api.Config, text []byte) api.Fm {
	t.Helper()
	x := api.Fm{Config: c, N: len(text), C: countsOf(text)}
	var last []byte
	var marks []bool
	var ends []uint64
	places := map[int]int{}
	for place, end := range ordered(text) {
		if end == 0 {
			x.Row = place
		} else {
			last = append(last, text[end-1])
		}
		marks = append(marks, end%c.Sample == 0)
		if end%c.Sample == 0 {
			ends = append(ends, uint64(end/c.Sample))
			places[end] = place
		}
	}
	var l []uint64
	for i := 0; i <= len(text); i += c.Sample {
		l = append(l, uint64(places[i]))
	}
	x.Seq = sure[api.Seq](t)(seq.Build(c.Shape, c.Inner, c.Kind, c.Log, last))
	x.Marks = sure[api.Vector](t)(vector.Build(c.Kind, sure[api.Bits](t)(bits.From(marks))))
	x.Ends = sure[api.Ints](t)(ints.Of(ends))
	x.Places = sure[api.Ints](t)(ints.Make(max(1, length(len(text))), l))
	return x
}

// built answers Build of a text.
func built(t *testing.T, c api.Config, text []byte) api.Fm {
	t.Helper()
	x, e := fm.Build(c, text)
	if e != api.OK {
		t.Fatalf("Build(%v, %s): %d", c, short(text), e)
	}
	return x
}

// told tells all of a value: two of one type that are told alike are alike; nil and empty lists are.
func told[T any](x T) string {
	return fmt.Sprintf("%v", x)
}

// short tells a text in few words.
func short(text []byte) string {
	return fmt.Sprintf("%d bytes %q..", len(text), text[:min(12, len(text))])
}

// brief tells an index in few words.
func brief(x api.Fm) string {
	x.C = x.C[:min(3, len(x.C))]
	s := told(x)
	return fmt.Sprintf("{%v, %d bytes, Row %d, %s..}", x.Config, x.N, x.Row, s[:min(100, len(s))])
}

// known are the indexes that were made, as they are told, by configuration and text.
type known map[string]string

// mayBe tells whether x is the index by its Config of the text that layers below read in it.
func (k known) mayBe(t *testing.T, x api.Fm) bool {
	t.Helper()
	if !config.Check(x.Config) {
		return false
	}
	text, e := bwt.Back(api.Bwt{Last: seq.Text(x.Seq), Row: x.Row, C: x.C})
	if e != api.OK {
		return false
	}
	name := config.Name(x.Config) + string(text)
	if _, ok := k[name]; !ok {
		k[name] = told(made(t, x.Config, text))
	}
	return k[name] == told(x)
}

// copied answers an index that shares nothing with x.
func copied[T any](x T) T {
	v := reflect.New(reflect.TypeOf(x)).Elem()
	v.Set(reflect.ValueOf(x))
	part(v)
	return v.Interface().(T)
}

// part gives all lists in v memory of their own.
func part(v reflect.Value) {
	switch v.Kind() {
	case reflect.Struct:
		for i := range v.NumField() {
			part(v.Field(i))
		}
	case reflect.Slice:
		l := reflect.MakeSlice(v.Type(), v.Len(), v.Len())
		reflect.Copy(l, v)
		v.Set(l)
		for i := range v.Len() {
			part(v.Index(i))
		}
	}
}

// spoil overwrites all that lists in v have, and what room is behind.
func spoil(v reflect.Value) {
	switch v.Kind() {
	case reflect.Struct:
		for i := range v.NumField() {
			spoil(v.Field(i))
		}
	case reflect.Slice:
		l := v.Slice(0, v.Cap())
		for i := range l.Len() {
			spoil(l.Index(i))
		}
		for i := range l.Len() {
			l.Index(i).SetZero()
		}
	}
}

// eachChange calls f with v changed in one place, for each place in v, and puts back what was there: numbers by one and by much, bits of words, lists that are shorter, longer, or left out.
func eachChange(v reflect.Value, f func()) {
	switch v.Kind() {
	case reflect.Struct:
		for i := range v.NumField() {
			eachChange(v.Field(i), f)
		}
	case reflect.Int:
		was := v.Int()
		for _, n := range []int64{was - 1, was + 1, -was, was + 1<<32, math.MinInt, math.MaxInt} {
			if n != was {
				v.SetInt(n)
				f()
			}
		}
		v.SetInt(was)
	case reflect.Uint64:
		was := v.Uint()
		for _, bit := range []int{0, 1, 2, 3, 5, 8, 11, 13, 17, 40, 63} {
			v.SetUint(was ^ 1<<bit)
			f()
		}
		v.SetUint(was)
	case reflect.Slice:
		eachLength(v, f)
		for i := range v.Len() {
			eachChange(v.Index(i), f)
		}
	}
}

// eachLength calls f with the list v left out, shorter and longer, and puts back what was there.
func eachLength(v reflect.Value, f func()) {
	was := reflect.ValueOf(v.Interface())
	n := was.Len()
	lists := []reflect.Value{reflect.Append(was.Slice3(0, n, n), reflect.Zero(v.Type().Elem()))}
	if n > 0 {
		lists = append(lists, reflect.Zero(v.Type()), was.Slice(1, n), was.Slice(0, n-1), reflect.Append(was.Slice3(0, n, n), was.Index(n-1)))
	}
	for _, l := range lists {
		v.Set(l)
		f()
	}
	v.Set(was)
}

// wantNone checks what each call answers of an index that may not be.
func wantNone(t *testing.T, x api.Fm) {
	t.Helper()
	if fm.Check(x) {
		t.Errorf("Check(%s) = true", brief(x))
	}
	if text := fm.Text(x); len(text) != 0 {
		t.Errorf("Text(%s) = %s", brief(x), short(text))
	}
	if n := fm.Size(x); n != 0 {
		t.Errorf("Size(%s) = %d", brief(x), n)
	}
	if n, k, e := fm.Count(x, []byte("a")); n != 0 || k != 0 || e != api.ErrArg {
		t.Errorf("Count(%s, a) = %d, %d, %d", brief(x), n, k, e)
	}
	for _, limit := range []int{math.MinInt, 0, 1, math.MaxInt} {
		if l, e := fm.Locate(x, nil, limit); len(l) != 0 || e != api.ErrArg {
			t.Errorf("Locate(%s, nothing, %d) = %d, %d", brief(x), limit, l, e)
		}
	}
	for _, i := range []int{-1, 0, math.MaxInt} { // ErrArg comes ahead of ErrRange
		if part, k, e := fm.Extract(x, i, i); len(part) != 0 || k != 0 || e != api.ErrArg {
			t.Errorf("Extract(%s, %d, %d) = %s, %d, %d", brief(x), i, i, short(part), k, e)
		}
	}
}

// sizeByWords tells by the chapter's words how many bits x needs.
func sizeByWords(x api.Fm) int {
	return seq.Size(x.Seq) + 32*258 + vector.Size(x.Marks) + x.Ends.N*x.Ends.Width + x.Places.N*x.Places.Width
}

// wantIndex checks that x is the index of a text by c, and what Check, Text and Size tell of it.
func wantIndex(t *testing.T, c api.Config, text []byte) {
	t.Helper()
	x, want := built(t, c, text), made(t, c, text)
	if told(x) != told(want) {
		t.Errorf("Build(%v, %s) = %s, want %s", c, short(text), brief(x), brief(want))
	}
	if !fm.Check(x) || !fm.Check(want) {
		t.Errorf("Build(%v, %s) may not be", c, short(text))
	}
	if got := fm.Text(x); !bytes.Equal(got, text) {
		t.Errorf("Text of Build(%v, %s) = %s", c, short(text), short(got))
	}
	if n := fm.Size(x); n != sizeByWords(want) {
		t.Errorf("Size of Build(%v, %s) = %d, want %d", c, short(text), n, sizeByWords(want))
	}
}

// naive answers at which places p stands in a text.
func naive(text []byte, p []byte) []int {
	var l []int
	for i := range len(text) + 1 {
		if bytes.HasPrefix(text[i:], p) {
			l = append(l, i)
		}
	}
	return l
}

// wantFound checks what Count and Locate tell of a pattern, by naive search in the text.
func wantFound(t *testing.T, x api.Fm, text []byte, p []byte) {
	t.Helper()
	want := naive(text, p)
	n, k, e := fm.Count(x, p)
	if n != len(want) || e != api.OK {
		t.Errorf("Count(%s, %s) = %d, %d, want %d", brief(x), short(p), n, e, len(want))
	}
	if k < 0 || k > 2*len(p) || n > 0 && len(text) > 0 && k < len(p) { // each byte of a pattern that is found was looked at
		t.Errorf("Count(%s, %s) asked %d times", brief(x), short(p), k)
	}
	for _, limit := range []int{math.MinInt, -1, 0, 1, 2, n - 1, n, n + 1, math.MaxInt} {
		wantLocate(t, x, p, limit, want[:min(max(limit, 0), len(want))])
	}
}

// wantLocate checks what Locate answers.
func wantLocate(t *testing.T, x api.Fm, p []byte, limit int, want []int) {
	t.Helper()
	if l, e := fm.Locate(x, p, limit); !slices.Equal(l, want) || e != api.OK {
		t.Errorf("Locate(%s, %s, %d) = %d, %d, want %d", brief(x), short(p), limit, l[:min(20, len(l))], e, want[:min(20, len(want))])
	}
}

// wantPart checks what Extract answers.
func wantPart(t *testing.T, x api.Fm, text []byte, i int, j int) {
	t.Helper()
	part, k, e := fm.Extract(x, i, j)
	if i < 0 || i > j || j > len(text) {
		if len(part) != 0 || k != 0 || e != api.ErrRange {
			t.Errorf("Extract(%s, %d, %d) = %s, %d, %d, want ErrRange", brief(x), i, j, short(part), k, e)
		}
		return
	}
	if !bytes.Equal(part, text[i:j]) || e != api.OK {
		t.Errorf("Extract(%s, %d, %d) = %s, %d, want %s", brief(x), i, j, short(part), e, short(text[i:j]))
	}
	if k < j-i-1 || k > j-i+x.Config.Sample { // behind the last byte that is read no Step is needed
		t.Errorf("Extract(%s, %d, %d) made %d Steps", brief(x), i, j, k)
	}
}

// patterns are what a text is asked for: parts of it from its beginning, its end and between, with a byte more, and others.
func patterns(text []byte) [][]byte {
	l := [][]byte{nil, {}, {0}, {255}, []byte("a"), []byte("ab"), []byte("abra"), []byte("\x00a"), alone(97, 3), alone(255, 4), alone(97, 400), turns(98, 97, 5), text, append(bytes.Clone(text), 97), append([]byte{97}, text...)}
	n := len(text)
	for _, at := range []int{0, 1, n / 3, n / 2, n - 9, n - 1} {
		for _, size := range []int{1, 2, 3, 8, n - at} {
			if at >= 0 && at+size <= n && size > 0 {
				l = append(l, text[at:at+size], append(bytes.Clone(text[at:at+size]), 128), append([]byte{128}, text[at:at+size]...))
			}
		}
	}
	return l
}

// P22.1 Build, Check, Text and Size: each configuration that may be.
func TestBuild(t *testing.T) {
	for _, c := range config.All() {
		for _, text := range [][]byte{nil, {255}, []byte("abracadabra"), few(40), scattered(33)} {
			wantIndex(t, c, text)
		}
	}
}

// P22.1 Build, Check, Text and Size: texts of all sorts.
func TestBuildTexts(t *testing.T) {
	t.Parallel()
	for _, c := range some() {
		for _, text := range texts() {
			wantIndex(t, c, text)
		}
	}
}

// P22.1 Build: lengths around whole multiples of Sample, of the words' 64 bits and of 2 to the power of Log.
func TestBuildLengths(t *testing.T) {
	t.Parallel()
	for _, c := range some() {
		for _, size := range []int{c.Sample, 64, 1 << min(c.Log, 8)} {
			for _, n := range []int{size, 2 * size, 3 * size, 4 * size} {
				for _, d := range []int{-1, 0, 1} {
					wantIndex(t, c, few(n+d))
					wantIndex(t, c, alone(97, n+d))
				}
			}
		}
	}
}

// P22.1 Build, Check, Text and Size: texts of as many bytes as there are at most, and nearly so, and around the longest blocks.
func TestBuildLongest(t *testing.T) {
	t.Parallel()
	for i, c := range some() {
		text := longTexts()[i%len(longTexts())]
		wantIndex(t, c, text)
	}
	for _, n := range []int{4095, 4096, 4097} {
		wantIndex(t, api.Config{Shape: 4, Inner: 3, Log: 12, Kind: 1, Sample: 16}, few(n))
	}
}

// P22.1 Build: ErrConfig of a configuration that may not be, whatever the text; R6: the index is zero.
func TestBuildConfig(t *testing.T) {
	for _, c := range wrong() {
		for _, text := range append([][]byte{nil, []byte("abracadabra")}, tooLong()[:2]...) {
			if x, e := fm.Build(c, text); e != api.ErrConfig || told(x) != told(api.Fm{}) {
				t.Errorf("Build(%v, %s) = %s, %d, want ErrConfig", c, short(text), brief(x), e)
			}
		}
	}
}

// P22.1 Build: ErrLong of a text that is too long, by each configuration; R6: the index is zero.
func TestBuildTooLong(t *testing.T) {
	for _, c := range config.All() {
		for _, text := range tooLong() {
			if x, e := fm.Build(c, text); e != api.ErrLong || told(x) != told(api.Fm{}) {
				t.Errorf("Build(%v, %s) = %s, %d, want ErrLong", c, short(text), brief(x), e)
			}
		}
	}
}

// P22.1 Build: an index whose parts are written out. The ends of banana in order: 6, 5, 3, 1, 0, 4, 2.
func TestBuildParts(t *testing.T) {
	x := built(t, api.Config{Shape: 3, Kind: 1, Sample: 2}, []byte("banana"))
	if x.N != 6 || x.Row != 4 || string(seq.Text(x.Seq)) != "annbaa" {
		t.Errorf("N %d, Row %d, turned %q", x.N, x.Row, seq.Text(x.Seq))
	}
	for c, want := range map[int]int{0: 1, 'a': 1, 'b': 4, 'c': 5, 'n': 5, 'o': 7, 256: 7} {
		if x.C[c] != want {
			t.Errorf("C[%d] = %d, want %d", c, x.C[c], want)
		}
	}
	if row := vector.Bits(x.Marks); x.Marks.Kind != 1 || row.N != 7 || row.W[0] != 0b1110001 {
		t.Errorf("Marks %v", x.Marks)
	}
	if l := ints.List(x.Ends); x.Ends.Width != 2 || !slices.Equal(l, []uint64{3, 0, 2, 1}) {
		t.Errorf("Ends %v, width %d", l, x.Ends.Width)
	}
	if l := ints.List(x.Places); x.Places.Width != 3 || !slices.Equal(l, []uint64{4, 6, 5, 0}) {
		t.Errorf("Places %v, width %d", l, x.Places.Width)
	}
}

// P22.1 Build: of no byte there is the empty end; Places have a width of 1.
func TestBuildNone(t *testing.T) {
	for _, c := range config.All() {
		x := built(t, c, nil)
		if x.N != 0 || x.Row != 0 || !slices.Equal(x.C, slices.Repeat([]int{1}, 257)) || vector.Bits(x.Marks).N != 1 || vector.Bits(x.Marks).W[0] != 1 {
			t.Errorf("Build(%v, nothing) = %s", c, brief(x))
		}
		if x.Ends.N != 1 || x.Ends.Width != 1 || x.Places.N != 1 || x.Places.Width != 1 || x.Ends.Bits.W[0] != 0 || x.Places.Bits.W[0] != 0 {
			t.Errorf("Build(%v, nothing): Ends %v, Places %v", c, x.Ends, x.Places)
		}
	}
}

// wantChanges checks each index that differs from x in one place.
func wantChanges(t *testing.T, x api.Fm) {
	t.Helper()
	x = copied(x)
	was, refused, k := told(x), 0, known{}
	eachChange(reflect.ValueOf(&x).Elem(), func() {
		if k.mayBe(t, x) {
			if !fm.Check(x) {
				t.Errorf("Check(%s) = false", brief(x))
			}
			return
		}
		if refused++; refused%5 == 0 {
			wantNone(t, x)
		} else if fm.Check(x) {
			t.Errorf("Check(%s) = true, changed from %s", brief(x), was[:min(100, len(was))])
		}
	})
	if told(x) != was || refused == 0 || !fm.Check(x) {
		t.Errorf("%s, %d of its changes refused", brief(x), refused)
	}
}

// P22.1 Check: each number, each list and bits of each word changed, of texts of a few bytes.
func TestCheckChanged(t *testing.T) {
	for _, c := range some() {
		t.Run(config.Name(c), func(t *testing.T) {
			t.Parallel()
			for _, text := range [][]byte{nil, {97}, []byte("abracadabra"), scattered(20)} {
				wantChanges(t, built(t, c, text))
			}
		})
	}
}

// P22.1 Check: the same of texts of more words, by a configuration of each kind.
func TestCheckChangedMore(t *testing.T) {
	t.Parallel()
	for _, c := range []api.Config{{Shape: 3, Kind: 1, Sample: 4}, {Shape: 2, Kind: 2, Sample: 2}, {Shape: 1, Kind: 3, Sample: 1}} {
		wantChanges(t, built(t, c, few(130)))
	}
}

// parts are all parts of an index, each put from another one.
func parts() []func(x *api.Fm, from api.Fm) {
	return []func(x *api.Fm, from api.Fm){
		func(x *api.Fm, from api.Fm) { x.Config = from.Config },
		func(x *api.Fm, from api.Fm) { x.N = from.N },
		func(x *api.Fm, from api.Fm) { x.Seq = from.Seq },
		func(x *api.Fm, from api.Fm) { x.Row = from.Row },
		func(x *api.Fm, from api.Fm) { x.C = from.C },
		func(x *api.Fm, from api.Fm) { x.Marks = from.Marks },
		func(x *api.Fm, from api.Fm) { x.Ends = from.Ends },
		func(x *api.Fm, from api.Fm) { x.Places = from.Places },
	}
}

// wantMixed checks each index that has some parts of x, and all others of from.
func wantMixed(t *testing.T, x api.Fm, from api.Fm) {
	t.Helper()
	k := known{}
	for set := range 1 << len(parts()) {
		mixed := x
		for i, put := range parts() {
			if set>>i&1 == 1 {
				put(&mixed, from)
			}
		}
		if !k.mayBe(t, mixed) {
			wantNone(t, mixed)
		} else if !fm.Check(mixed) {
			t.Errorf("Check(%s) = false", brief(mixed))
		}
	}
}

// P22.1 Check: an index that has parts of that of another text, of as many bytes or not.
func TestCheckTexts(t *testing.T) {
	t.Parallel()
	for _, c := range []api.Config{{Shape: 1, Kind: 1, Sample: 1}, {Shape: 2, Kind: 3, Sample: 4}, {Shape: 4, Inner: 3, Log: 4, Kind: 2, Sample: 2}} {
		x := built(t, c, []byte("abracadabra"))
		for _, other := range []string{"", "a", "arbadacarba", "abracadabrb", "dabraabraca", "abracadabraa", "abracadabr", "abrabracada"} {
			wantMixed(t, x, built(t, c, []byte(other)))
		}
	}
}

// P22.1 Check: an index that has parts of that of another configuration. Some of these are built alike, where they differ in Sample and the text is short.
func TestCheckConfigs(t *testing.T) {
	t.Parallel()
	for _, text := range [][]byte{nil, []byte("abr"), few(20)} {
		c := api.Config{Shape: 4, Inner: 2, Log: 4, Kind: 1, Sample: 4}
		x := built(t, c, text)
		for _, other := range []api.Config{
			{Shape: 2, Kind: 1, Sample: 4}, {Shape: 4, Inner: 3, Log: 4, Kind: 1, Sample: 4}, {Shape: 4, Inner: 2, Log: 6, Kind: 1, Sample: 4},
			{Shape: 4, Inner: 2, Log: 4, Kind: 3, Sample: 4}, {Shape: 4, Inner: 2, Log: 4, Kind: 2, Sample: 4}, {Shape: 4, Inner: 2, Log: 4, Kind: 1, Sample: 8}, {Shape: 4, Inner: 2, Log: 4, Kind: 1, Sample: 2},
		} {
			wantMixed(t, x, built(t, other, text))
		}
	}
}

// P22.1 Check: a Seq that may be, of the text, but of a log that no configuration has, or of a text that is too short by one.
func TestCheckSeq(t *testing.T) {
	c := api.Config{Shape: 4, Inner: 1, Log: 4, Kind: 1, Sample: 1}
	for _, text := range [][]byte{nil, []byte("abracadabra")} {
		x := built(t, c, text)
		last := seq.Text(x.Seq)
		x.Seq = sure[api.Seq](t)(seq.Build(4, 1, 1, 5, last))
		wantNone(t, x)
		x.Config.Log = 5
		wantNone(t, x)
		x.Config, x.Seq = c, sure[api.Seq](t)(seq.Build(4, 1, 1, 4, append(last, 97)))
		wantNone(t, x)
	}
}

// P22.1, P22.2, R1: the zero value, and one with no more than a Config.
func TestZero(t *testing.T) {
	wantNone(t, api.Fm{})
	wantNone(t, api.Fm{C: []int{}})
	for _, c := range some() {
		wantNone(t, api.Fm{Config: c})
		wantNone(t, api.Fm{Config: c, C: slices.Repeat([]int{1}, 257), Seq: sure[api.Seq](t)(seq.Build(c.Shape, c.Inner, c.Kind, c.Log, nil))})
	}
}

// P22.1 Check, R1: numbers that are far from what the lists have, alone and together.
func TestCheckFar(t *testing.T) {
	for _, n := range append(far(), 0, 10, 12, longest, longest+1) {
		for _, c := range some()[:4] {
			x := built(t, c, []byte("abracadabra"))
			x.N = n
			wantNone(t, x)
			x.Marks.Plain.Bits.N, x.Ends.N, x.Places.N = n+1, n, n
			wantNone(t, x)
			x = built(t, c, []byte("abracadabra"))
			x.Row = n
			wantNone(t, x)
		}
	}
}

// P22.2 Count and Locate, P22.3: parts of short texts, and other patterns, of configurations of all sorts.
func TestFound(t *testing.T) {
	t.Parallel()
	for i, c := range some() {
		for k, text := range [][]byte{[]byte("abracadabra"), []byte("aabaab\x00aab"), few(40), turns(0, 255, 21), scattered(35)} {
			if (i+k)%2 == 0 {
				x := built(t, c, text)
				for _, p := range patterns(text) {
					wantFound(t, x, text, p)
				}
			}
		}
	}
}

// P22.2 Count and Locate: texts of all sorts.
func TestFoundTexts(t *testing.T) {
	t.Parallel()
	c := []api.Config{{Shape: 3, Kind: 1, Sample: 4}, {Shape: 1, Kind: 2, Sample: 64}, {Shape: 2, Kind: 3, Sample: 1}}
	for i, text := range texts() {
		x := built(t, c[i%3], text)
		for _, p := range patterns(text) {
			wantFound(t, x, text, p)
		}
	}
}

// P22.2 Count and Locate: all patterns of at most three of some bytes, and all parts of the text.
func TestFoundAll(t *testing.T) {
	t.Parallel()
	text := []byte("abaababaabaab\xff\xffab\x00\x00\x00a")
	x := built(t, api.Config{Shape: 2, Kind: 1, Sample: 8}, text)
	some := []byte("ab\xff\x00\x01\xfe")
	for _, a := range some {
		wantFound(t, x, text, []byte{a})
		for _, b := range some {
			wantFound(t, x, text, []byte{a, b})
			for _, c := range some {
				wantFound(t, x, text, []byte{a, b, c})
			}
		}
	}
	for i := range text {
		for j := i; j <= len(text); j++ {
			wantFound(t, x, text, text[i:j])
		}
	}
}

// P22.2 Count and Locate: each byte there is, of texts that have all of them, one of them, or none.
func TestFoundBytes(t *testing.T) {
	t.Parallel()
	for c := range 256 {
		for _, text := range [][]byte{nil, {byte(c)}, {byte(255 - c)}, rising(256)} {
			wantFound(t, built(t, api.Config{Shape: 1, Kind: 1, Sample: 16}, text), text, []byte{byte(c)})
		}
	}
}

// P22.2 Count: nothing is asked of the empty pattern, and no more of what stands ahead of a byte that the text does not have.
func TestAsked(t *testing.T) {
	for _, text := range texts() {
		x := built(t, api.Config{Shape: 3, Kind: 2, Sample: 2}, text)
		if n, k, e := fm.Count(x, nil); n != len(text)+1 || k != 0 || e != api.OK {
			t.Errorf("Count(%s, nothing) = %d, %d, %d", brief(x), n, k, e)
		}
		if bytes.IndexByte(text, 'z') >= 0 {
			continue
		}
		if n, k, e := fm.Count(x, append(bytes.Clone(text), 'z')); n != 0 || k > 2 || e != api.OK {
			t.Errorf("Count(%s, the text and z) = %d, %d, %d", brief(x), n, k, e)
		}
	}
}

// P22.2 Count, Locate and Extract: texts of as many bytes as there are at most, in shapes and kinds that are slow to look over among them.
func TestLongest(t *testing.T) {
	t.Parallel()
	l := some()
	for i, text := range longTexts() {
		x := built(t, l[(i*4+2)%len(l)], text)
		n := len(text)
		for _, p := range [][]byte{nil, {97}, text[n/2 : n/2+3], text, append(bytes.Clone(text), text...)} {
			want := naive(text, p)
			if got, k, e := fm.Count(x, p); got != len(want) || k > 2*len(p) || e != api.OK {
				t.Errorf("Count(%s, %s) = %d, %d, %d, want %d", brief(x), short(p), got, k, e, len(want))
			}
			wantLocate(t, x, p, len(want)-1, want[:max(0, len(want)-1)])
		}
		for _, at := range []int{0, 1, n / 2, n - 65, n - 1, n} {
			wantPart(t, x, text, at, n)
			wantPart(t, x, text, 0, at)
			wantPart(t, x, text, at, min(at+64, n))
		}
	}
}

// P22.2 Extract: each i and j of short texts, and around.
func TestExtract(t *testing.T) {
	t.Parallel()
	for _, c := range some() {
		for _, text := range [][]byte{nil, {0}, []byte("abracadabra"), few(20)} {
			x := built(t, c, text)
			for i := -2; i <= len(text)+2; i++ {
				for j := -2; j <= len(text)+2; j++ {
					wantPart(t, x, text, i, j)
				}
			}
		}
	}
}

// P22.2 Extract: parts around whole multiples of Sample, of longer texts.
func TestExtractSamples(t *testing.T) {
	t.Parallel()
	for _, c := range some() {
		for _, text := range [][]byte{rising(129), scattered(127), few(128), alone(97, 200)} {
			x := built(t, c, text)
			n := len(text)
			for _, j := range []int{0, 1, c.Sample - 1, c.Sample, c.Sample + 1, 63, 64, 65, 127, 128, 129, n - 1, n, n + 1} {
				for _, i := range []int{0, 1, j - c.Sample, j - 2, j - 1, j} {
					wantPart(t, x, text, i, j)
				}
			}
		}
	}
}

// P22.2 Extract: numbers that are far from every place, and i greater than j.
func TestExtractFar(t *testing.T) {
	for _, text := range [][]byte{nil, []byte("abracadabra"), few(300)} {
		x := built(t, api.Config{Shape: 1, Kind: 3, Sample: 8}, text)
		for _, i := range far() {
			for _, j := range append(far(), 0, 5, len(text)) {
				wantPart(t, x, text, i, j)
				wantPart(t, x, text, j, i)
			}
		}
	}
}

// P22.3, W2: what two configurations tell of one text is the same, each of them; how often Rank was asked does not matter.
func TestAlike(t *testing.T) {
	t.Parallel()
	text := slices.Concat(few(70), scattered(30), few(20))
	for _, c := range config.All() {
		x := built(t, c, text)
		for _, p := range [][]byte{{}, {97}, text[5:9], text[60:80], {255, 255}, []byte("zz")} {
			want := naive(text, p)
			if n, _, e := fm.Count(x, p); n != len(want) || e != api.OK {
				t.Errorf("Count(%s, %s) = %d, %d, want %d", brief(x), short(p), n, e, len(want))
			}
			wantLocate(t, x, p, math.MaxInt, want)
			wantLocate(t, x, p, 3, want[:min(3, len(want))])
		}
		for _, at := range []int{0, 40, 119, 120} {
			wantPart(t, x, text, at/2, at)
			wantPart(t, x, text, at, 120)
		}
	}
}

// answersOf tells all that is answered of an index.
func answersOf(x api.Fm, p []byte, i int, j int) string {
	n, k, e := fm.Count(x, p)
	l, f := fm.Locate(x, p, i)
	part, steps, g := fm.Extract(x, i, j)
	return fmt.Sprint(n, k, e, l, f, part, steps, g, fm.Text(x), fm.Size(x), fm.Check(x))
}

// R3, R8: no call changes what it is given, nor what stands behind, and the same call answers the same again.
func TestGiven(t *testing.T) {
	for _, c := range some() {
		for _, text := range texts() {
			room := append(bytes.Clone(text), "behind"...)
			before := bytes.Clone(room)
			x := built(t, c, room[:len(text)])
			was, own := told(x), copied(x)
			p := append(bytes.Clone(text[len(text)/2:min(len(text), len(text)/2+5)]), "behind"...)
			pattern := p[:len(p)-6]
			want := answersOf(x, pattern, 1, 2)
			for range 2 {
				if got := answersOf(x, pattern, 1, 2); got != want {
					t.Errorf("%s answers another time %s, ahead %s", brief(x), got, want)
				}
			}
			if answersOf(own, bytes.Clone(pattern), 1, 2) != want {
				t.Errorf("%s answers otherwise than its copy", brief(x))
			}
			if told(x) != was || !bytes.Equal(room, before) || string(p[len(pattern):]) != "behind" || !bytes.Equal(pattern, text[len(text)/2:][:len(pattern)]) {
				t.Errorf("what is given was changed, by %v, of %s", c, short(text))
			}
			if again := built(t, c, text); told(again) != was {
				t.Errorf("Build(%v, %s) = %s another time, ahead %s", c, short(text), brief(again), brief(x))
			}
		}
	}
}

// R3: no two lists of an answer, nor of two answers, share memory, and none shares it with what was given.
func TestShared(t *testing.T) {
	for _, c := range some() {
		for _, text := range texts() {
			given := bytes.Clone(text)
			x, other := built(t, c, given), built(t, c, given)
			was := told(x)
			clear(given)
			if told(x) != was {
				t.Errorf("Build(%v, %s) shares memory with the text", c, short(text))
			}
			spoil(reflect.ValueOf(&other).Elem())
			if told(x) != was || told(built(t, c, text)) != was {
				t.Errorf("two Builds(%v, %s) share memory", c, short(text))
			}
			wantOwn(t, x, text)
			for _, l := range [][]byte{fm.Text(x), extracted(x)} {
				clear(l[:cap(l)])
			}
			l, _ := fm.Locate(x, nil, 5)
			clear(l[:cap(l)])
			if told(x) != was || answersOf(x, nil, 5, 6) != answersOf(copied(x), nil, 5, 6) {
				t.Errorf("what is answered of %s shares memory with it", brief(x))
			}
		}
	}
}

// extracted answers all of the text of x.
func extracted(x api.Fm) []byte {
	part, _, _ := fm.Extract(x, 0, x.N)
	return part
}

// wantOwn checks that each list of x has memory of its own, and shares none with the text.
func wantOwn(t *testing.T, x api.Fm, text []byte) {
	t.Helper()
	type stretch struct{ from, to uintptr }
	var l []stretch
	var gather func(v reflect.Value)
	gather = func(v reflect.Value) {
		switch v.Kind() {
		case reflect.Struct:
			for i := range v.NumField() {
				gather(v.Field(i))
			}
		case reflect.Slice:
			if v.Cap() > 0 {
				from := v.Pointer()
				l = append(l, stretch{from, from + uintptr(v.Cap())*v.Type().Elem().Size()})
			}
			for i := range v.Len() {
				gather(v.Index(i))
			}
		}
	}
	gather(reflect.ValueOf(x))
	gather(reflect.ValueOf(text))
	slices.SortFunc(l, func(a, b stretch) int { return cmp.Compare(a.from, b.from) })
	for i := 1; i < len(l); i++ {
		if l[i].from < l[i-1].to {
			t.Errorf("two lists of %s share memory", brief(x))
		}
	}
}

// The chapter's example, by each configuration.
func TestExample(t *testing.T) {
	for _, c := range config.All() {
		x := built(t, c, []byte("abracadabra"))
		n, k, e := fm.Count(x, []byte("abra"))
		if n != 2 || k > 8 || e != api.OK {
			t.Errorf("%v: Count of abra = %d, %d, %d", c, n, k, e)
		}
		wantLocate(t, x, []byte("abra"), 5, []int{0, 7})
		wantLocate(t, x, []byte("abra"), 1, []int{0})
		if part, _, e := fm.Extract(x, 3, 7); string(part) != "acad" || e != api.OK {
			t.Errorf("%v: Extract = %q, %d", c, part, e)
		}
	}
}
