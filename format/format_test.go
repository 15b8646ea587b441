package format_test

import (
	"bytes"
	"cmp"
	"encoding/binary"
	"encoding/hex"
	"fmt"
	"hash/crc32"
	"math"
	"reflect"
	"slices"
	"strings"
	"testing"

	"haystack/api"
	"haystack/config"
	"haystack/fm"
	"haystack/format"
)

const longest = 1 << 13 // MaxText, written out as the document does

// Where in a head things stand, by the document's words.
const (
	atConfig   = 5
	atN        = 10
	atRow      = 14
	atCount    = 18
	atSections = 19 // of each a byte, a size and a checksum
	perSection = 9
	atNoughts  = 37
	atSum      = 40
	headSize   = 44
)

// scattered answers n bytes of a fixed row that has all of them.
func scattered(n int) []byte {
	text := make([]byte, n)
	x := uint64(88172645463325252)
	for i := range text {
		x ^= x << 13
		x ^= x >> 7
		x ^= x << 17
		text[i] = byte(x >> 40)
	}
	return text
}

// few answers n bytes of a fixed row that has few of them, 0 and 255 among them.
func few(n int) []byte {
	text := scattered(n)
	for i, c := range text {
		text[i] = "aaaaaab\xff\x00"[c%9]
	}
	return text
}

// alone answers n times one byte.
func alone(c byte, n int) []byte {
	return bytes.Repeat([]byte{c}, n)
}

// turns answers n bytes, a and b by turns.
func turns(a byte, b byte, n int) []byte {
	return bytes.Repeat([]byte{a, b}, n/2+1)[:n]
}

// rising answers n bytes, each of them the one that comes behind the one ahead; 0 comes behind 255.
func rising(n int) []byte {
	text := make([]byte, n)
	for i := range text {
		text[i] = byte(i)
	}
	return text
}

// texts are the short texts.
func texts() [][]byte {
	return [][]byte{
		nil, {}, {0}, {255}, {97}, {0, 255}, {255, 0}, {0, 0}, {255, 255},
		[]byte("abracadabra"), []byte("mississippi"), []byte("aabaab\x00aab"), []byte("tobeornottobe"),
		alone(0, 20), alone(255, 70), alone(97, 128), turns(0, 255, 90), turns(98, 97, 65),
		rising(256), rising(300), few(40), few(300), scattered(17), scattered(300),
		slices.Concat(scattered(50), scattered(50), scattered(49)), slices.Concat(alone(97, 63), []byte("b"), alone(97, 64)),
	}
}

// longTexts are texts of as many bytes as a text has at most, or nearly so.
func longTexts() [][]byte {
	return [][]byte{
		alone(255, longest), alone(0, longest-1), turns(0, 255, longest), scattered(longest), few(longest), rising(longest),
		slices.Concat(scattered(longest/2), scattered(longest/2)),
	}
}

// far are numbers that are far from every place.
func far() []int {
	return []int{math.MinInt, math.MinInt + 1, math.MinInt32, -1 << 32, -longest, -2, -1, 1 << 20, math.MaxInt32, 1 << 32, 1<<32 + 1, math.MaxInt - longest, math.MaxInt - 1, math.MaxInt}
}

// some are configurations of each shape, each inner shape, each kind, each Log and each Sample, but not with one another.
func some() []api.Config {
	return []api.Config{
		{Shape: 1, Kind: 1, Sample: 1}, {Shape: 1, Kind: 2, Sample: 8}, {Shape: 1, Kind: 3, Sample: 64},
		{Shape: 2, Kind: 1, Sample: 4}, {Shape: 2, Kind: 2, Sample: 16}, {Shape: 2, Kind: 3, Sample: 2},
		{Shape: 3, Kind: 1, Sample: 32}, {Shape: 3, Kind: 2, Sample: 64}, {Shape: 3, Kind: 3, Sample: 4},
		{Shape: 4, Inner: 1, Log: 4, Kind: 2, Sample: 2}, {Shape: 4, Inner: 1, Log: 12, Kind: 1, Sample: 16},
		{Shape: 4, Inner: 2, Log: 6, Kind: 3, Sample: 1}, {Shape: 4, Inner: 2, Log: 10, Kind: 2, Sample: 32},
		{Shape: 4, Inner: 3, Log: 8, Kind: 1, Sample: 8}, {Shape: 4, Inner: 3, Log: 4, Kind: 3, Sample: 64},
	}
}

// built answers Build of a text.
func built(t *testing.T, c api.Config, text []byte) api.Fm {
	t.Helper()
	x, e := fm.Build(c, text)
	if e != api.OK {
		t.Fatalf("Build(%v, %s): %d", c, short(text), e)
	}
	return x
}

// told tells all of a value: two of one type that are told alike are alike; nil and empty lists are.
func told[T any](x T) string {
	return fmt.Sprintf("%v", x)
}

// short tells a text in few words.
func short(text []byte) string {
	return fmt.Sprintf("%d bytes %q..", len(text), text[:min(12, len(text))])
}

// brief tells an index in few words.
func brief(x api.Fm) string {
	x.C = x.C[:min(3, len(x.C))]
	s := told(x)
	return fmt.Sprintf("{%v, %d bytes, Row %d, %s..}", x.Config, x.N, x.Row, s[:min(100, len(s))])
}

// copied answers an index that shares nothing with x.
func copied[T any](x T) T {
	v := reflect.New(reflect.TypeOf(x)).Elem()
	v.Set(reflect.ValueOf(x))
	part(v)
	return v.Interface().(T)
}

// part gives all lists in v memory of their own.
func part(v reflect.Value) {
	switch v.Kind() {
	case reflect.Struct:
		for i := range v.NumField() {
			part(v.Field(i))
		}
	case reflect.Slice:
		l := reflect.MakeSlice(v.Type(), v.Len(), v.Len())
		reflect.Copy(l, v)
		v.Set(l)
		for i := range v.Len() {
			part(v.Index(i))
		}
	}
}

// spoil overwrites all that lists in v have, and what room is behind.
func spoil(v reflect.Value) {
	switch v.Kind() {
	case reflect.Struct:
		for i := range v.NumField() {
			spoil(v.Field(i))
		}
	case reflect.Slice:
		l := v.Slice(0, v.Cap())
		for i := range l.Len() {
			spoil(l.Index(i))
		}
		for i := range l.Len() {
			l.Index(i).SetZero()
		}
	}
}

// eachChange calls f with v changed in one place, for each place in v, and puts back what was there: numbers by one and by much, bits of words, lists that are shorter, longer, or left out.
func eachChange(v reflect.Value, f func()) {
	switch v.Kind() {
	case reflect.Struct:
		for i := range v.NumField() {
			eachChange(v.Field(i), f)
		}
	case reflect.Int:
		was := v.Int()
		for _, n := range []int64{was - 1, was + 1, -was, was + 1<<32, math.MinInt, math.MaxInt} {
			if n != was {
				v.SetInt(n)
				f()
			}
		}
		v.SetInt(was)
	case reflect.Uint64:
		was := v.Uint()
		for _, bit := range []int{0, 1, 2, 3, 5, 8, 11, 13, 17, 40, 63} {
			v.SetUint(was ^ 1<<bit)
			f()
		}
		v.SetUint(was)
	case reflect.Slice:
		eachLength(v, f)
		for i := range v.Len() {
			eachChange(v.Index(i), f)
		}
	}
}

// eachLength calls f with the list v left out, shorter and longer, and puts back what was there.
func eachLength(v reflect.Value, f func()) {
	was := reflect.ValueOf(v.Interface())
	n := was.Len()
	lists := []reflect.Value{reflect.Append(was.Slice3(0, n, n), reflect.Zero(v.Type().Elem()))}
	if n > 0 {
		lists = append(lists, reflect.Zero(v.Type()), was.Slice(1, n), was.Slice(0, n-1), reflect.Append(was.Slice3(0, n, n), was.Index(n-1)))
	}
	for _, l := range lists {
		v.Set(l)
		f()
	}
	v.Set(was)
}

// naive answers at which places p stands in a text.
func naive(text []byte, p []byte) []int {
	var l []int
	for i := range len(text) + 1 {
		if bytes.HasPrefix(text[i:], p) {
			l = append(l, i)
		}
	}
	return l
}

// wantOwn checks that each list of x has memory of its own, and shares none with the text.
func wantOwn(t *testing.T, x api.Fm, text []byte) {
	t.Helper()
	type stretch struct{ from, to uintptr }
	var l []stretch
	var gather func(v reflect.Value)
	gather = func(v reflect.Value) {
		switch v.Kind() {
		case reflect.Struct:
			for i := range v.NumField() {
				gather(v.Field(i))
			}
		case reflect.Slice:
			if v.Cap() > 0 {
				from := v.Pointer()
				l = append(l, stretch{from, from + uintptr(v.Cap())*v.Type().Elem().Size()})
			}
			for i := range v.Len() {
				gather(v.Index(i))
			}
		}
	}
	gather(reflect.ValueOf(x))
	gather(reflect.ValueOf(text))
	slices.SortFunc(l, func(a, b stretch) int { return cmp.Compare(a.from, b.from) })
	for i := 1; i < len(l); i++ {
		if l[i].from < l[i-1].to {
			t.Errorf("two lists of %s share memory", brief(x))
		}
	}
}

// lengthsByWords answers the lengths of the codes of a text's symbols, by layer 11's words.
func lengthsByWords(text []byte) []int {
	type thing struct {
		count, number int
		symbols       []int
	}
	var l []thing
	for c := range 256 {
		if n := bytes.Count(text, []byte{byte(c)}); n > 0 {
			l = append(l, thing{n, c, []int{c}})
		}
	}
	lengths := make([]int, 256)
	if len(l) == 1 {
		lengths[l[0].number] = 1
	}
	for next := 256; len(l) > 1; next++ {
		slices.SortFunc(l, func(a, b thing) int {
			return cmp.Or(cmp.Compare(a.count, b.count), cmp.Compare(a.number, b.number))
		})
		both := slices.Concat(l[0].symbols, l[1].symbols)
		for _, c := range both {
			lengths[c]++
		}
		l = append(l[2:], thing{l[0].count + l[1].count, next, both})
	}
	return lengths
}

// codesByWords answers the codes of these lengths as texts of 0 and 1, by layer 11's words; false, if it takes no such lengths.
func codesByWords(lengths []byte) ([]string, bool) {
	sum, some := 0, 0
	for _, length := range lengths {
		if length > 40 {
			return nil, false
		}
		if length > 0 {
			sum += 1 << (40 - length)
			some++
		}
	}
	if sum != 1<<40 && some != 0 && !(some == 1 && sum == 1<<39) {
		return nil, false
	}
	codes, next := make([]string, 256), 0
	for length := 1; length <= 40; length++ {
		next *= 2
		for c, of := range lengths {
			if int(of) == length {
				codes[c] = fmt.Sprintf("%0*b", length, next)
				next++
			}
		}
	}
	return codes, true
}

// turnedByWords answers a text turned, and its Row, by sorting the ends themselves.
func turnedByWords(text []byte) ([]byte, int) {
	ends := make([]int, len(text)+1)
	for i := range ends {
		ends[i] = i
	}
	slices.SortFunc(ends, func(i, j int) int { return bytes.Compare(text[i:], text[j:]) })
	var last []byte
	for _, end := range ends {
		if end > 0 {
			last = append(last, text[end-1])
		}
	}
	return last, slices.Index(ends, 0)
}

// packedByWords answers bits that are written as 0 and 1 as bytes.
func packedByWords(bits string) []byte {
	b := make([]byte, (len(bits)+7)/8)
	for i, bit := range bits {
		if bit == '1' {
			b[i/8] |= 1 << (i % 8)
		}
	}
	return b
}

// codedByWords answers a text by codes of these lengths, as bytes.
func codedByWords(t *testing.T, text []byte, lengths []byte) []byte {
	t.Helper()
	codes, ok := codesByWords(lengths)
	if !ok {
		t.Fatalf("no codes of lengths %v", lengths)
	}
	var bits strings.Builder
	for _, c := range text {
		bits.WriteString(codes[c])
	}
	return packedByWords(bits.String())
}

// fields are what a head tells beside its sections.
type fields struct {
	config api.Config
	n, row uint32
}

// whole answers a head with these fields and sections, and the sections behind.
func whole(f fields, one []byte, two []byte) []byte {
	c := f.config
	b := []byte{'H', 'A', 'Y', 'S', 1, byte(c.Shape), byte(c.Inner), byte(c.Log), byte(c.Kind), byte(c.Sample)}
	b = binary.BigEndian.AppendUint32(b, f.n)
	b = binary.BigEndian.AppendUint32(b, f.row)
	b = append(b, 2)
	for i, s := range [][]byte{one, two} {
		b = append(b, byte(i+1))
		b = binary.BigEndian.AppendUint32(b, uint32(len(s)))
		b = binary.BigEndian.AppendUint32(b, crc32.ChecksumIEEE(s))
	}
	b = append(b, 0, 0, 0)
	b = binary.BigEndian.AppendUint32(b, crc32.ChecksumIEEE(b))
	return slices.Concat(b, one, two)
}

// sectionsByWords answers the sections of a text that is turned.
func sectionsByWords(t *testing.T, last []byte) ([]byte, []byte) {
	t.Helper()
	var one []byte
	for _, length := range lengthsByWords(last) {
		one = append(one, byte(length))
	}
	return one, codedByWords(t, last, one)
}

// encodedByWords answers the bytes of a text's index by c, by the chapter's words.
func encodedByWords(t *testing.T, c api.Config, text []byte) []byte {
	t.Helper()
	last, row := turnedByWords(text)
	one, two := sectionsByWords(t, last)
	return whole(fields{c, uint32(len(text)), uint32(row)}, one, two)
}

// number answers the number at a place.
func number(b []byte, at int) uint32 {
	return binary.BigEndian.Uint32(b[at:])
}

// peekByWords answers by the chapter's words what Peek does.
func peekByWords(b []byte) (api.Config, int, api.Errno) {
	if len(b) < headSize {
		return api.Config{}, 0, api.ErrShort
	}
	if string(b[:4]) != "HAYS" || b[4] != 1 {
		return api.Config{}, 0, api.ErrForm
	}
	if number(b, atSum) != crc32.ChecksumIEEE(b[:atSum]) {
		return api.Config{}, 0, api.ErrSum
	}
	c := api.Config{Shape: int(b[5]), Inner: int(b[6]), Log: int(b[7]), Kind: int(b[8]), Sample: int(b[9])}
	if !config.Check(c) {
		return api.Config{}, 0, api.ErrConfig
	}
	n := number(b, atN)
	if n > longest || number(b, atRow) > n || b[atCount] != 2 || b[atSections] != 1 || b[atSections+perSection] != 2 || string(b[atNoughts:atSum]) != "\x00\x00\x00" || number(b, atSections+1) != 256 {
		return api.Config{}, 0, api.ErrForm
	}
	return c, int(n), api.OK
}

// decodeByWords answers by the chapter's words the configuration and the text of the index that Decode answers, or its error.
func decodeByWords(t *testing.T, b []byte) (api.Config, []byte, api.Errno) {
	t.Helper()
	c, n, e := peekByWords(b)
	if e != api.OK {
		return api.Config{}, nil, e
	}
	size := int(number(b, atSections+perSection+1))
	if len(b) < 300+size {
		return api.Config{}, nil, api.ErrShort
	}
	if len(b) > 300+size {
		return api.Config{}, nil, api.ErrForm
	}
	one, two := b[headSize:300], b[300:]
	if crc32.ChecksumIEEE(one) != number(b, atSections+5) || crc32.ChecksumIEEE(two) != number(b, atSections+perSection+5) {
		return api.Config{}, nil, api.ErrSum
	}
	last, ok := symbolsByWords(one, two, n)
	if !ok {
		return api.Config{}, nil, api.ErrForm
	}
	text := backByWords(last, int(number(b, atRow)))
	if len(text) != n || !bytes.Equal(encodedByWords(t, c, text), b) {
		return api.Config{}, nil, api.ErrForm
	}
	return c, text, api.OK
}

// symbolsByWords answers the first n symbols that are told by codes of these lengths.
func symbolsByWords(lengths []byte, coded []byte, n int) ([]byte, bool) {
	codes, ok := codesByWords(lengths)
	if !ok {
		return nil, false
	}
	symbols := map[string]byte{}
	for c, code := range codes {
		if code != "" {
			symbols[code] = byte(c)
		}
	}
	var last []byte
	read := ""
	for i := 0; i < 8*len(coded) && len(last) < n; i++ {
		read += string('0' + coded[i/8]>>(i%8)&1)
		if c, ok := symbols[read]; ok {
			last, read = append(last, c), ""
		}
	}
	return last, len(last) == n
}

// backByWords answers the text that is turned so, if there is one; else other bytes, or fewer.
func backByWords(last []byte, row int) []byte {
	const none = -1
	ahead := make([]int, 0, len(last)+1) // of each end
	for _, c := range last {
		ahead = append(ahead, int(c))
	}
	ahead = slices.Insert(ahead, row, none)
	order := make([]int, len(ahead))
	for i := range order {
		order[i] = i
	}
	slices.SortStableFunc(order, func(i, j int) int { return cmp.Compare(ahead[i], ahead[j]) })
	var text []byte
	for at := order[row]; ahead[at] != none && len(text) < len(last); at = order[at] {
		text = append(text, byte(ahead[at]))
	}
	return text
}

// righted answers b with all checksums that it has room for made right.
func righted(b []byte) []byte {
	b = bytes.Clone(b)
	if len(b) >= 300 {
		binary.BigEndian.PutUint32(b[atSections+5:], crc32.ChecksumIEEE(b[headSize:300]))
		binary.BigEndian.PutUint32(b[atSections+perSection+5:], crc32.ChecksumIEEE(b[300:]))
	}
	return headRighted(b)
}

// headRighted answers b with the head's own checksum made right.
func headRighted(b []byte) []byte {
	b = bytes.Clone(b)
	binary.BigEndian.PutUint32(b[atSum:], crc32.ChecksumIEEE(b[:atSum]))
	return b
}

// withByte answers b with another byte at a place.
func withByte(b []byte, at int, one byte) []byte {
	b = bytes.Clone(b)
	b[at] = one
	return b
}

// withNumber answers b with another number at a place.
func withNumber(b []byte, at int, n uint32) []byte {
	b = bytes.Clone(b)
	binary.BigEndian.PutUint32(b[at:], n)
	return b
}

// encoded answers Encode of a text's index by c.
func encoded(t *testing.T, c api.Config, text []byte) []byte {
	t.Helper()
	b, e := format.Encode(built(t, c, text))
	if e != api.OK {
		t.Fatalf("Encode of Build(%v, %s): %d", c, short(text), e)
	}
	return b
}

// wantPeek checks what Peek answers.
func wantPeek(t *testing.T, b []byte, c api.Config, n int, e api.Errno) {
	t.Helper()
	if gotC, gotN, gotE := format.Peek(b); gotC != c || gotN != n || gotE != e {
		t.Errorf("Peek(%s) = %v, %d, %d, want %v, %d, %d", shown(b), gotC, gotN, gotE, c, n, e)
	}
}

// wantTrouble checks that Peek and Decode tell an error, and nothing else.
func wantTrouble(t *testing.T, b []byte, e api.Errno) {
	t.Helper()
	wantPeek(t, b, api.Config{}, 0, e)
	wantRefused(t, b, e)
}

// wantRefused checks that Decode tells an error, and nothing else.
func wantRefused(t *testing.T, b []byte, e api.Errno) {
	t.Helper()
	x, got := format.Decode(b)
	if got != e || !reflect.ValueOf(x).IsZero() {
		t.Errorf("Decode(%s) = %s, %d, want %d", shown(b), brief(x), got, e)
	}
}

// wantTaken checks that Decode answers the index of a text by c, and that Encode of it is b.
func wantTaken(t *testing.T, b []byte, c api.Config, text []byte) {
	t.Helper()
	x, e := format.Decode(b)
	if e != api.OK || told(x) != told(built(t, c, text)) {
		t.Errorf("Decode(%s) = %s, %d, want the index of %s by %v", shown(b), brief(x), e, short(text), c)
	}
	if again, e := format.Encode(x); e != api.OK || !bytes.Equal(again, b) {
		t.Errorf("Encode of Decode(%s) = %s, %d", shown(b), shown(again), e)
	}
}

// wantByWords checks what Peek and Decode answer against the chapter's words, and answers whether b is taken.
func wantByWords(t *testing.T, b []byte) bool {
	t.Helper()
	c, n, e := peekByWords(b)
	wantPeek(t, b, c, n, e)
	c, text, e := decodeByWords(t, b)
	if e != api.OK {
		wantRefused(t, b, e)
		return false
	}
	wantTaken(t, b, c, text)
	return true
}

// shown tells bytes in few words.
func shown(b []byte) string {
	return fmt.Sprintf("%d bytes %x..", len(b), b[:min(headSize, len(b))])
}

// wantEncoded checks what Encode answers of a text's index by c, and Decode and Peek of that.
func wantEncoded(t *testing.T, c api.Config, text []byte) {
	t.Helper()
	b := encoded(t, c, text)
	if want := encodedByWords(t, c, text); !bytes.Equal(b, want) {
		t.Errorf("Encode of Build(%v, %s) = %s, want %s", c, short(text), shown(b), shown(want))
	}
	wantPeek(t, b, c, len(text), api.OK)
	wantTaken(t, b, c, text)
}

// P24.1 Encode, P24.2 Peek, P24.3 Decode, P24.4: each configuration that may be.
func TestConfigs(t *testing.T) {
	t.Parallel()
	for _, c := range config.All() {
		for _, text := range [][]byte{nil, {255}, []byte("abracadabra"), few(40)} {
			wantEncoded(t, c, text)
		}
	}
}

// P24.1 Encode, P24.2 Peek, P24.3 Decode, P24.4: texts of all sorts.
func TestTexts(t *testing.T) {
	t.Parallel()
	for _, c := range some() {
		for _, text := range texts() {
			wantEncoded(t, c, text)
		}
	}
}

// P24.1 Encode, P24.2 Peek, P24.3 Decode, P24.4: texts of as many bytes as there are at most, or nearly so.
func TestLongest(t *testing.T) {
	t.Parallel()
	for i, text := range append(longTexts(), deep()) {
		wantEncoded(t, some()[i*4%len(some())], text)
	}
}

// deep answers a text whose symbols have codes of all lengths up to 18: each stands as often as the two ahead of it together.
func deep() []byte {
	var text []byte
	a, b := 1, 1
	for c := range byte(19) {
		text = append(text, alone(200-c, a)...)
		a, b = b, a+b
	}
	return text[:min(len(text), longest)]
}

// P24.1 Encode: lengths around whole bytes of section 2, and around pieces of 64 and of 2 to the power of Log symbols.
func TestLengths(t *testing.T) {
	t.Parallel()
	for n := range 140 {
		c := some()[n%len(some())]
		wantEncoded(t, c, alone(byte(n), n))
		wantEncoded(t, c, turns(0, 255, n))
		wantEncoded(t, c, few(n))
	}
}

// P24.1 Encode: an index byte by byte, as they were reckoned apart from the program.
func TestHead(t *testing.T) {
	head := "48415953" + "01" + "04" + "02" + "08" + "02" + "10" + "0000000b" + "00000003" + "02" +
		"01" + "00000100" + "9527ba10" + "02" + "00000003" + "c6bbffd6" + "000000" + "770a2f92"
	want, _ := hex.DecodeString(head)
	lengths := make([]byte, 256)
	for i, c := range []byte("abcdr") {
		lengths[c] = []byte{1, 3, 3, 3, 3}[i]
	}
	want = append(append(want, lengths...), 0xbe, 0x17, 0x12)
	c := api.Config{Shape: 4, Inner: 2, Log: 8, Kind: 2, Sample: 16}
	if b := encoded(t, c, []byte("abracadabra")); !bytes.Equal(b, want) {
		t.Errorf("Encode = %x, want %x", b, want)
	}
}

// The chapter's example: an index of no text has 300 bytes, by each configuration.
func TestExample(t *testing.T) {
	for _, c := range config.All() {
		b := encoded(t, c, nil)
		if len(b) != 300 || !bytes.Equal(b[headSize:], make([]byte, 256)) {
			t.Errorf("%v: an index of no text is %x", c, b)
		}
	}
}

// P24.1 Encode: an index that may not be, which is one that is built with a field changed, or left out.
func TestEncodeChanged(t *testing.T) {
	t.Parallel()
	for i, c := range some() {
		x := copied(built(t, c, [][]byte{[]byte("abracadabra"), nil, few(20)}[i%3]))
		refused := 0
		eachChange(reflect.ValueOf(&x).Elem(), func() {
			b, e := format.Encode(x)
			if fm.Check(x) {
				wantTaken(t, b, x.Config, fm.Text(x))
				return
			}
			refused++
			if len(b) != 0 || e != api.ErrArg {
				t.Errorf("Encode(%s) = %s, %d", brief(x), shown(b), e)
			}
		})
		if refused < 300 {
			t.Errorf("%v: only %d indexes were refused", c, refused)
		}
	}
}

// P24.1 Encode: the zero value, one with no more than a Config, one of another text's turned text, one with a field left out.
func TestEncodeZero(t *testing.T) {
	c := api.Config{Shape: 1, Kind: 1, Sample: 4}
	x := built(t, c, []byte("abracadabra"))
	y := built(t, c, []byte("abracadabrb"))
	l := []api.Fm{{}, {Config: c}, {C: slices.Repeat([]int{1}, 257)}}
	for i := range reflect.TypeOf(x).NumField() {
		out, mixed := x, x
		reflect.ValueOf(&out).Elem().Field(i).SetZero()
		reflect.ValueOf(&mixed).Elem().Field(i).Set(reflect.ValueOf(y).Field(i))
		l = append(l, out)
		if told(mixed) != told(x) {
			l = append(l, mixed)
		}
	}
	for _, x := range l {
		if b, e := format.Encode(x); len(b) != 0 || e != api.ErrArg {
			t.Errorf("Encode(%s) = %s, %d", brief(x), shown(b), e)
		}
	}
}

// P24.2 Peek: what stands behind a head does not matter, nor whether anything does.
func TestPeekBehind(t *testing.T) {
	for i, c := range config.All() {
		b := encoded(t, c, few(i%50))
		for _, n := range []int{headSize, headSize + 1, 299, 300, len(b)} {
			wantPeek(t, b[:n:n], c, i%50, api.OK)
		}
		wantPeek(t, append(bytes.Clone(b), 1), c, i%50, api.OK)
		wantPeek(t, append(b[:headSize:headSize], scattered(i)...), c, i%50, api.OK)
	}
}

// P24.2 Peek, P24.3 Decode: fewer bytes than a head has are ErrShort, whatever they are.
func TestShortHead(t *testing.T) {
	b := encoded(t, api.Config{Shape: 2, Kind: 3, Sample: 2}, []byte("abracadabra"))
	wantTrouble(t, nil, api.ErrShort)
	for n := range headSize {
		wantTrouble(t, b[:n], api.ErrShort)
		wantTrouble(t, b[:n:n], api.ErrShort)
		wantTrouble(t, make([]byte, n), api.ErrShort)
		wantTrouble(t, scattered(n), api.ErrShort)
	}
	for _, n := range []int{headSize, headSize + 1, 300} {
		wantTrouble(t, make([]byte, n), api.ErrForm)
		wantTrouble(t, scattered(n), api.ErrForm)
	}
}

// P24.2 Peek, P24.3 Decode: another sign, with the checksum left and made right.
func TestSign(t *testing.T) {
	b := encoded(t, api.Config{Shape: 2, Kind: 3, Sample: 2}, []byte("abracadabra"))
	for at := range 5 {
		for one := range 256 {
			other := withByte(b, at, byte(one))
			if byte(one) != b[at] {
				wantTrouble(t, other, api.ErrForm)
				wantTrouble(t, headRighted(other), api.ErrForm)
			}
		}
	}
}

// P24.2 Peek, P24.3 Decode: each byte of a head, and of its checksum, another one, with the checksum left.
func TestHeadSum(t *testing.T) {
	b := encoded(t, api.Config{Shape: 4, Inner: 1, Log: 4, Kind: 2, Sample: 8}, []byte("mississippi"))
	for at := atConfig; at < headSize; at++ {
		for one := range 256 {
			if byte(one) != b[at] {
				wantTrouble(t, withByte(b, at, byte(one)), api.ErrSum)
			}
		}
	}
}

// P24.2 Peek, P24.3 Decode: each byte of a head any byte, with the checksum made right.
func TestHeadBytes(t *testing.T) {
	t.Parallel()
	for _, c := range []api.Config{{Shape: 4, Inner: 1, Log: 4, Kind: 2, Sample: 8}, {Shape: 1, Kind: 1, Sample: 64}} {
		for _, text := range [][]byte{nil, []byte("mississippi"), alone(0, 9)} {
			b, taken := encoded(t, c, text), 0
			for at := atConfig; at < atSum; at++ {
				for one := range 256 {
					if wantByWords(t, headRighted(withByte(b, at, byte(one)))) && byte(one) != b[at] {
						taken++
					}
				}
			}
			if taken == 0 { // another Sample at least
				t.Errorf("of the heads that are other than %v only that was taken", c)
			}
		}
	}
}

// P24.2 Peek, P24.3 Decode: a Config that may not be; one that may be is taken, and is another index of the same text.
func TestConfigBytes(t *testing.T) {
	t.Parallel()
	text := []byte("abracadabra")
	b := encoded(t, api.Config{Shape: 3, Kind: 1, Sample: 8}, text)
	taken := 0
	for shape := range 6 {
		for inner := range 5 {
			for log := range 14 {
				for kind := range 5 {
					for _, sample := range []int{0, 1, 2, 3, 4, 8, 12, 16, 32, 63, 64, 128, 255} {
						other := headRighted(slices.Replace(bytes.Clone(b), atConfig, atN, byte(shape), byte(inner), byte(log), byte(kind), byte(sample)))
						if c := (api.Config{Shape: shape, Inner: inner, Log: log, Kind: kind, Sample: sample}); config.Check(c) {
							wantTaken(t, other, c, text)
							taken++
						} else {
							wantTrouble(t, other, api.ErrConfig)
						}
					}
				}
			}
		}
	}
	if taken != 378 {
		t.Errorf("%d configurations were taken", taken)
	}
}

// P24.2 Peek, P24.3 Decode: N up to MaxText and Row up to N, and more.
func TestHeadNumbers(t *testing.T) {
	c := api.Config{Shape: 1, Kind: 1, Sample: 8}
	b := encoded(t, c, []byte("abracadabra"))
	for _, n := range []uint32{0, 1, 10, 11, 12, 255, 256, longest - 1, longest} {
		for _, row := range []uint32{0, n / 2, n} {
			other := headRighted(withNumber(withNumber(b, atN, n), atRow, row))
			wantPeek(t, other, c, int(n), api.OK)
			wantByWords(t, other)
			if n < 11 || n > 12 { // the bit behind the last symbol could be one more
				wantRefused(t, other, api.ErrForm)
			}
		}
		for _, row := range []uint32{n + 1, n + 256, 1 << 16, 1 << 31, 1<<31 + n, math.MaxUint32} {
			wantTrouble(t, headRighted(withNumber(withNumber(b, atN, n), atRow, row)), api.ErrForm)
		}
	}
	for _, n := range []uint32{longest + 1, longest + 11, 1 << 14, 1 << 16, 1<<16 + 11, 1 << 24, 1<<24 + 11, 1 << 31, 1<<31 + 11, math.MaxInt32, math.MaxUint32} {
		for _, row := range []uint32{0, 3, n} {
			wantTrouble(t, headRighted(withNumber(withNumber(b, atN, n), atRow, row)), api.ErrForm)
		}
	}
}

// P24.2 Peek, P24.3 Decode: a count of sections that is not 2, sections that are not 1 and 2, a section 1 that has not 256 bytes, noughts that are none.
func TestHeadForm(t *testing.T) {
	b := encoded(t, api.Config{Shape: 3, Kind: 2, Sample: 1}, []byte("abracadabra"))
	for one := range 256 {
		for at, right := range map[int]int{atCount: 2, atSections: 1, atSections + perSection: 2, atNoughts: 0, atNoughts + 1: 0, atNoughts + 2: 0} {
			if one != right {
				wantTrouble(t, headRighted(withByte(b, at, byte(one))), api.ErrForm)
			}
		}
	}
	for _, size := range []uint32{0, 1, 255, 257, 1, 1 << 16, 256 + 1<<16, 1 << 31, 256 + 1<<31, math.MaxUint32} {
		wantTrouble(t, headRighted(withNumber(b, atSections+1, size)), api.ErrForm)
	}
	for d := range 4 { // a section 1 that is as long as the head says, but not 256 bytes
		f := fields{api.Config{Shape: 3, Kind: 2, Sample: 1}, 11, 3}
		if d != 2 {
			wantTrouble(t, whole(f, b[headSize:headSize+254+d], b[300:]), api.ErrForm)
		}
	}
}

// fault is something that is wrong with an index, and what is told of it.
type fault struct {
	what  string
	e     api.Errno
	spoil func(b []byte) []byte
}

// faults are all that can be wrong, in the order in which they are told. Each leaves the checksums of what it does not speak of as they should be.
func faults() []fault {
	return []fault{
		{"a sign", api.ErrForm, func(b []byte) []byte { return withByte(b, 0, 'h') }},
		{"the 1", api.ErrForm, func(b []byte) []byte { return withByte(b, 4, 2) }},
		{"the head's checksum", api.ErrSum, func(b []byte) []byte { return withByte(b, atSum+3, ^b[atSum+3]) }},
		{"the Config", api.ErrConfig, func(b []byte) []byte { return headRighted(withByte(b, atConfig, 5)) }},
		{"N", api.ErrForm, func(b []byte) []byte { return headRighted(withNumber(b, atN, 1<<31)) }},
		{"Row", api.ErrForm, func(b []byte) []byte { return headRighted(withNumber(b, atRow, 1<<30)) }},
		{"how many sections", api.ErrForm, func(b []byte) []byte { return headRighted(withByte(b, atCount, 3)) }},
		{"section 2's byte", api.ErrForm, func(b []byte) []byte { return headRighted(withByte(b, atSections+perSection, 1)) }},
		{"the noughts", api.ErrForm, func(b []byte) []byte { return headRighted(withByte(b, atNoughts+1, 1)) }},
		{"section 1's size", api.ErrForm, func(b []byte) []byte { return headRighted(withNumber(b, atSections+1, 257)) }},
		{"section 2's size, more", api.ErrShort, func(b []byte) []byte { return headRighted(withNumber(b, atSections+perSection+1, 1000)) }},
		{"section 2's size, less", api.ErrForm, func(b []byte) []byte { return headRighted(withNumber(b, atSections+perSection+1, 1)) }},
		{"section 1's checksum", api.ErrSum, func(b []byte) []byte { return headRighted(withNumber(b, atSections+5, ^number(b, atSections+5))) }},
		{"section 2's checksum", api.ErrSum, func(b []byte) []byte {
			return headRighted(withNumber(b, atSections+perSection+5, ^number(b, atSections+perSection+5)))
		}},
	}
}

// R2, P24.2 Peek, P24.3 Decode: where two are wrong, the one that is named first is told.
// The later one is laid ahead of the earlier one, as that may leave the head's checksum wrong.
func TestFirst(t *testing.T) {
	c := api.Config{Shape: 3, Kind: 1, Sample: 2}
	b := encoded(t, c, []byte("abracadabra"))
	l := faults()
	nothing := fault{"nothing else", api.OK, bytes.Clone}
	for i, first := range l {
		for _, second := range append(l[i+1:len(l):len(l)], nothing) {
			both := first.spoil(second.spoil(b))
			if _, e := format.Decode(both); e != first.e {
				t.Errorf("%s and %s: Decode tells %d, want %d", first.what, second.what, e, first.e)
			}
			wantByWords(t, both)
			if _, _, e := format.Peek(both); i > 9 && e != api.OK || i <= 9 && e != first.e {
				t.Errorf("%s and %s: Peek tells %d", first.what, second.what, e)
			}
			wantTrouble(t, both[:headSize-1], api.ErrShort) // ahead of all others
		}
	}
}

// P24.3 Decode: every shorter part of what is encoded, and bytes more.
func TestParts(t *testing.T) {
	t.Parallel()
	for _, text := range [][]byte{nil, {0}, []byte("abracadabra"), alone(255, 30), few(100)} {
		b := encoded(t, api.Config{Shape: 2, Kind: 2, Sample: 4}, text)
		for n := range b {
			wantRefused(t, b[:n], api.ErrShort)
			wantRefused(t, b[:n:n], api.ErrShort)
		}
		for _, more := range [][]byte{{0}, {1}, {255}, make([]byte, 300), b} {
			wantRefused(t, append(bytes.Clone(b), more...), api.ErrForm)
		}
	}
}

// P24.3 Decode: lengths of section 2 as great as four bytes can tell.
func TestSizes(t *testing.T) {
	b := encoded(t, api.Config{Shape: 2, Kind: 2, Sample: 4}, []byte("abracadabra"))
	at := atSections + perSection + 1
	for _, size := range []uint32{4, 5, 255, 259, 1 << 16, 3 + 1<<16, 1 << 31, 3 + 1<<31, math.MaxInt32, math.MaxUint32 - 300, math.MaxUint32 - 299, math.MaxUint32 - 43, math.MaxUint32} {
		wantRefused(t, headRighted(withNumber(b, at, size)), api.ErrShort)
	}
	for size := range uint32(3) {
		wantRefused(t, headRighted(withNumber(b, at, size)), api.ErrForm)
		wantRefused(t, righted(withNumber(b, at, size)), api.ErrForm)
		wantRefused(t, headRighted(withNumber(b[:300+size], at, size)), api.ErrSum)
		wantRefused(t, righted(withNumber(b[:300+size], at, size)), api.ErrForm) // too short for N symbols
	}
	wantRefused(t, righted(withNumber(append(bytes.Clone(b), 0), at, 4)), api.ErrForm) // a byte more than N symbols need
	wantRefused(t, righted(withNumber(slices.Concat(b, make([]byte, 100)), at, 103)), api.ErrForm)
}

// P24.3 Decode: a section 2 of more bits than a row has, of some symbols and of none.
func TestHugeSection(t *testing.T) {
	for _, text := range [][]byte{nil, {7}, []byte("abracadabra")} {
		b := encoded(t, api.Config{Shape: 2, Kind: 2, Sample: 4}, text)
		for _, size := range []int{1<<17 - 1, 1 << 17, 1<<17 + 1, 1 << 18, 1 << 20} {
			huge := append(bytes.Clone(b), make([]byte, 300+size-len(b))...)
			wantRefused(t, righted(withNumber(huge, atSections+perSection+1, uint32(size))), api.ErrForm)
		}
	}
}

// P24.3 Decode: each byte of each section another one, with its checksum left, and with all checksums made right.
func TestSectionBytes(t *testing.T) {
	t.Parallel()
	for i, text := range [][]byte{nil, {97}, []byte("abracadabra"), alone(5, 17), turns(97, 98, 21), few(60), scattered(40)} {
		b := encoded(t, some()[2*i], text)
		for at := headSize; at < len(b); at++ {
			for _, d := range []byte{1, 2, 3, 4, 7, 8, 16, 32, 64, 127, 128, 255} {
				wantRefused(t, withByte(b, at, b[at]+d), api.ErrSum)
				wantRefused(t, headRighted(withByte(b, at, b[at]^d)), api.ErrSum)
				wantByWords(t, righted(withByte(b, at, b[at]+d)))
				wantByWords(t, righted(withByte(b, at, b[at]^d)))
			}
		}
	}
}

// P24.3 Decode: each byte there is at each place of section 2: some are taken, and are other texts.
func TestSectionTwo(t *testing.T) {
	t.Parallel()
	taken := 0
	for _, text := range [][]byte{[]byte("abracadabra"), []byte("aabb"), []byte("banana"), few(30)} {
		b := encoded(t, api.Config{Shape: 3, Kind: 1, Sample: 16}, text)
		for at := 300; at < len(b); at++ {
			for one := range 256 {
				if wantByWords(t, righted(withByte(b, at, byte(one)))) && byte(one) != b[at] {
					taken++
				}
			}
		}
	}
	if taken == 0 {
		t.Error("no other text was taken")
	}
}

// P24.3 Decode: both sections another one at once, with checksums left and made right.
func TestBothSections(t *testing.T) {
	t.Parallel()
	for _, text := range [][]byte{{97}, []byte("abracadabra"), few(60)} {
		b := encoded(t, api.Config{Shape: 1, Kind: 2, Sample: 2}, text)
		for one := headSize; one < 300; one += 7 {
			for two := 300; two < len(b); two++ {
				other := withByte(withByte(b, one, b[one]+1), two, b[two]+1)
				wantRefused(t, other, api.ErrSum)
				wantByWords(t, righted(other))
			}
		}
		// each of the sections whole, of another text
		c := encoded(t, api.Config{Shape: 1, Kind: 2, Sample: 2}, []byte("mississippi"))
		wantByWords(t, righted(slices.Concat(b[:headSize], c[headSize:300], b[300:])))
		wantByWords(t, righted(withNumber(slices.Concat(b[:300], c[300:]), atSections+perSection+1, uint32(len(c)-300))))
		wantRefused(t, slices.Concat(b[:headSize], c[headSize:300], b[300:]), api.ErrSum)
	}
}

// swapped answers lengths with those of two symbols in one another's place.
func swapped(lengths []byte, a byte, b byte) []byte {
	l := bytes.Clone(lengths)
	l[a], l[b] = l[b], l[a]
	return l
}

// P24.3 Decode: lengths that layer 11's Codes does not take.
func TestNoCodes(t *testing.T) {
	c := api.Config{Shape: 2, Kind: 1, Sample: 4}
	for _, text := range [][]byte{nil, {97}, []byte("aabb"), []byte("abracadabra")} {
		b := encoded(t, c, text)
		f := fields{c, uint32(len(text)), number(b, atRow)}
		one, two := b[headSize:300], b[300:]
		for _, l := range [][]byte{
			append(bytes.Clone(one[:255]), 41), append(bytes.Clone(one[:255]), 255), append(bytes.Clone(one[:255]), 40),
			append([]byte{2}, make([]byte, 255)...), append([]byte{1, 2}, make([]byte, 254)...), append([]byte{1, 1, 1}, make([]byte, 253)...),
			slices.Repeat([]byte{7}, 256), slices.Repeat([]byte{9}, 256), slices.Repeat([]byte{1}, 256), slices.Repeat([]byte{255}, 256),
		} {
			if _, ok := codesByWords(l); ok {
				t.Errorf("there are codes of %v", l)
			}
			wantRefused(t, whole(f, l, two), api.ErrForm)
		}
	}
}

// P24.3 Decode: lengths that Codes takes, and a section 2 by these, but not those of the text.
func TestOtherLengths(t *testing.T) {
	c := api.Config{Shape: 2, Kind: 1, Sample: 4}
	text := []byte("abracadabra")
	b := encoded(t, c, text)
	last, row := turnedByWords(text)
	f := fields{c, 11, uint32(row)}
	one := b[headSize:300]
	wantTaken(t, whole(f, one, codedByWords(t, last, one)), c, text)
	even, more := make([]byte, 256), make([]byte, 256)
	for i, c := range []byte("abcdr") {
		even[c], more[c] = []byte{2, 2, 2, 3, 3}[i], []byte{1, 2, 3, 4, 5}[i]
	}
	more['z'] = 5
	for _, l := range [][]byte{swapped(one, 'a', 'b'), swapped(one, 'a', 'r'), even, more, slices.Repeat([]byte{8}, 256)} {
		other := whole(f, l, codedByWords(t, last, l))
		if got, ok := symbolsByWords(l, other[300:], 11); !ok || !bytes.Equal(got, last) {
			t.Fatalf("%v: other symbols %q", l, got)
		}
		wantRefused(t, other, api.ErrForm)
	}
	// Right of another text: of one that has other counts, and of one that has an e for each d, which is read then.
	counted, _ := sectionsByWords(t, []byte("aabbccdrrrr"))
	wantRefused(t, whole(f, counted, codedByWords(t, last, counted)), api.ErrForm)
	wantTaken(t, whole(f, swapped(one, 'd', 'e'), b[300:]), c, []byte("abracaeabra"))
}

// P24.3 Decode: lengths of codes where there is no symbol, or of one symbol alone.
func TestFewLengths(t *testing.T) {
	c := api.Config{Shape: 3, Kind: 3, Sample: 1}
	none, alone := make([]byte, 256), make([]byte, 256)
	alone[97] = 1
	wantTaken(t, whole(fields{c, 0, 0}, none, nil), c, nil)
	wantTaken(t, whole(fields{c, 3, 3}, alone, []byte{0}), c, []byte("aaa"))
	for _, b := range [][]byte{
		whole(fields{c, 0, 0}, alone, nil),          // no a
		whole(fields{c, 0, 0}, none, []byte{0}),     // a byte that tells nothing
		whole(fields{c, 1, 1}, none, nil),           // no codes
		whole(fields{c, 1, 1}, none, []byte{0}),     // likewise
		whole(fields{c, 3, 3}, alone, nil),          // no bits
		whole(fields{c, 3, 3}, alone, []byte{1}),    // a code that there is not
		whole(fields{c, 3, 3}, alone, []byte{4}),    // likewise, as the last one
		whole(fields{c, 3, 3}, alone, []byte{8}),    // a bit behind
		whole(fields{c, 3, 3}, alone, []byte{128}),  // likewise
		whole(fields{c, 3, 3}, alone, []byte{0, 0}), // a byte more
		whole(fields{c, 9, 9}, alone, []byte{0}),    // too short for nine
		whole(fields{c, 3, 0}, alone, []byte{0}),    // another Row
		whole(fields{c, 3, 2}, alone, []byte{0}),    // likewise
		whole(fields{c, 0, 0}, none, []byte{1}),     // likewise
	} {
		wantRefused(t, b, api.ErrForm)
		wantByWords(t, b)
	}
}

// P24.3 Decode: bits set behind the last symbol's code.
func TestBehind(t *testing.T) {
	for _, text := range [][]byte{[]byte("abracadabra"), []byte("banana"), few(33), turns(97, 98, 13)} {
		b := encoded(t, api.Config{Shape: 2, Kind: 1, Sample: 64}, text)
		last, _ := turnedByWords(text)
		need := 0
		codes, _ := codesByWords(b[headSize:300])
		for _, c := range last {
			need += len(codes[c])
		}
		if need%8 == 0 {
			t.Fatalf("%s has no bits behind", short(text))
		}
		for bit := need; bit < 8*(len(b)-300); bit++ {
			wantRefused(t, righted(withByte(b, 300+bit/8, b[300+bit/8]|1<<(bit%8))), api.ErrForm)
		}
	}
}

// P24.3 Decode: each Row there may be. With some of them it is another text, turned.
func TestRows(t *testing.T) {
	t.Parallel()
	taken := 0
	for _, text := range [][]byte{{97}, []byte("ab"), []byte("abracadabra"), []byte("tobeornottobe"), alone(0, 20), few(40), rising(30)} {
		b := encoded(t, api.Config{Shape: 1, Kind: 1, Sample: 8}, text)
		for row := range uint32(len(text) + 2) {
			if wantByWords(t, headRighted(withNumber(b, atRow, row))) && row != number(b, atRow) {
				taken++
			}
			wantRefused(t, withNumber(b, atRow, row+1<<16), api.ErrSum)
		}
	}
	if taken == 0 {
		t.Error("no other Row was taken")
	}
}

// P24.3 Decode: each N there may be.
func TestCounts(t *testing.T) {
	for _, text := range [][]byte{{97}, []byte("abracadabra"), alone(0, 20), few(40)} {
		b := encoded(t, api.Config{Shape: 1, Kind: 1, Sample: 8}, text)
		for n := range uint32(len(text) + 20) {
			if wantByWords(t, headRighted(withNumber(b, atN, n))) && n != uint32(len(text)) {
				t.Errorf("%d bytes were taken of %s", n, short(text))
			}
		}
	}
}

// W3: whatever bytes are read, there is an error, or an index of one text: several bytes changed at once, with checksums made right.
func TestMixed(t *testing.T) {
	t.Parallel()
	b := encoded(t, api.Config{Shape: 3, Kind: 1, Sample: 4}, []byte("abracadabra"))
	random := scattered(1 << 14)
	for len(random) > 12 {
		other := bytes.Clone(b)
		for range 1 + random[0]%3 {
			at := int(random[1])<<8 | int(random[2])
			other[at%len(other)] = random[3] % 9
			random = random[3:]
		}
		wantByWords(t, other)
		wantByWords(t, righted(other))
		wantByWords(t, headRighted(other))
		random = random[1:]
	}
}

// W3: bytes that were never encoded, short and long, with and without a sign.
func TestAnyBytes(t *testing.T) {
	t.Parallel()
	for n := range 400 {
		for _, b := range [][]byte{scattered(n), rising(n), alone(0, n), alone(255, n)} {
			wantByWords(t, b)
			signed := bytes.Clone(b)
			copy(signed, "HAYS\x01\x01\x00\x00\x01\x01")
			wantByWords(t, signed)
			if n >= headSize {
				wantByWords(t, headRighted(signed))
				wantByWords(t, righted(signed))
			}
		}
	}
}

// P24.4: all texts of at most four of three bytes: each is there and back, and no two are the same bytes.
func TestAllShort(t *testing.T) {
	c := api.Config{Shape: 2, Kind: 1, Sample: 2}
	seen := map[string]string{}
	var all func(text []byte)
	all = func(text []byte) {
		wantEncoded(t, c, text)
		b := string(encoded(t, c, text))
		if other, ok := seen[b]; ok {
			t.Errorf("%q and %q are the same bytes", other, text)
		}
		seen[b] = string(text)
		if len(text) < 4 {
			for _, one := range []byte{0, 97, 255} {
				all(append(text[:len(text):len(text)], one))
			}
		}
	}
	all(nil)
}

// P24.3 Decode: all rows of at most six bits of two symbols, with each Row and N: what is taken is told by its words.
func TestAllTurned(t *testing.T) {
	t.Parallel()
	c := api.Config{Shape: 1, Kind: 1, Sample: 1}
	lengths := make([]byte, 256)
	lengths[97], lengths[98] = 1, 1
	texts := map[string]bool{}
	for n := range uint32(7) {
		for bits := range byte(64) {
			for row := range n + 1 {
				b := whole(fields{c, n, row}, lengths, []byte{bits})
				if wantByWords(t, b) {
					x, _ := format.Decode(b)
					texts[string(fm.Text(x))] = true
				}
			}
		}
	}
	want := 0
	for n := 2; n <= 6; n++ {
		want += 1<<n - 2 // but those of one symbol alone
	}
	if len(texts) != want {
		t.Errorf("%d texts were taken, want %d", len(texts), want)
	}
}

// answersOf tells all that is answered of an index.
func answersOf(x api.Fm, p []byte, i int, j int) string {
	n, _, e := fm.Count(x, p)
	l, f := fm.Locate(x, p, math.MaxInt)
	part, _, g := fm.Extract(x, i, j)
	return fmt.Sprint(n, e, l, f, string(part), g)
}

// P24.4: what is decoded answers as its text does, whichever the configuration.
func TestAnswers(t *testing.T) {
	t.Parallel()
	for i, c := range config.All() {
		text := [][]byte{[]byte("abracadabra"), few(70), scattered(30), alone(0, 9), nil}[i%5]
		x, _ := format.Decode(encoded(t, c, text))
		for _, p := range [][]byte{nil, {0}, {97}, []byte("abra"), text[len(text)/2:], text} {
			want := naive(text, p)
			part := text[len(text)/3 : len(text)/2]
			if got := answersOf(x, p, len(text)/3, len(text)/2); got != fmt.Sprint(len(want), api.OK, want, api.OK, string(part), api.OK) {
				t.Errorf("%v of %s answers %s", c, short(text), got)
			}
		}
	}
}

// W2, P24.4: another text whose index is made by changing bytes answers as that text does.
func TestOtherText(t *testing.T) {
	t.Parallel()
	b := encoded(t, api.Config{Shape: 2, Kind: 2, Sample: 4}, []byte("abracadabra"))
	found := 0
	for row := range uint32(12) {
		for bit := range 22 {
			other := righted(withNumber(withByte(b, 300+bit/8, b[300+bit/8]^1<<(bit%8)), atRow, row))
			x, e := format.Decode(other)
			if e != api.OK {
				continue
			}
			found++
			text := fm.Text(x)
			want := naive(text, []byte("a"))
			if got := answersOf(x, []byte("a"), 2, 7); got != fmt.Sprint(len(want), api.OK, want, api.OK, string(text[2:7]), api.OK) {
				t.Errorf("%q answers %s", text, got)
			}
		}
	}
	if found == 0 {
		t.Error("no other text was taken")
	}
}

// P24.2 Peek, P24.3 Decode: an index of a text that is too long.
func TestTooLong(t *testing.T) {
	c := api.Config{Shape: 3, Kind: 1, Sample: 64}
	wantTrouble(t, encodedByWords(t, c, alone(97, longest+1)), api.ErrForm)
	wantTrouble(t, encodedByWords(t, c, scattered(longest+1)), api.ErrForm)
}

// R3, R8: no call changes what it is given, nor what stands behind, and the same call answers the same again.
func TestGiven(t *testing.T) {
	t.Parallel()
	for i, text := range texts() {
		x := built(t, some()[i%len(some())], text)
		was := told(x)
		b, _ := format.Encode(x)
		room := append(bytes.Clone(b), "behind"...)
		given := room[:len(b)]
		for range 2 {
			again, _ := format.Encode(x)
			y, _ := format.Decode(given)
			if !bytes.Equal(again, b) || told(y) != was {
				t.Errorf("%s is another one another time", brief(x))
			}
			wantPeek(t, given, x.Config, len(text), api.OK)
			wantPeek(t, given[:headSize], x.Config, len(text), api.OK)
			for _, at := range []int{0, 9, 41, 50} {
				other := append(withByte(b, at, ^b[at]), "behind"...)
				before := bytes.Clone(other)
				format.Decode(other[:len(b)])
				format.Peek(other[:len(b)])
				if !bytes.Equal(other, before) {
					t.Errorf("%s was changed", shown(other))
				}
			}
		}
		if told(x) != was || string(room) != string(b)+"behind" {
			t.Errorf("what is given was changed, of %s", short(text))
		}
		if other, e := format.Encode(copied(x)); e != api.OK || !bytes.Equal(other, b) {
			t.Errorf("a copy of %s is %s, %d", brief(x), shown(other), e)
		}
	}
}

// R3: no two lists of an answer, nor of two answers, share memory, and none shares it with what was given.
func TestShared(t *testing.T) {
	t.Parallel()
	for i, text := range texts() {
		x := built(t, some()[i%len(some())], text)
		was := told(x)
		b, _ := format.Encode(x)
		bytesWere := bytes.Clone(b)
		first, _ := format.Decode(b)
		second, _ := format.Decode(b)
		other, _ := format.Encode(x)
		wantOwn(t, first, b)
		spoil(reflect.ValueOf(&second).Elem())
		if told(first) != was || !bytes.Equal(b, bytesWere) {
			t.Errorf("two Decodes share memory, of %s", short(text))
		}
		clear(other[:cap(other)])
		if told(x) != was || !bytes.Equal(b, bytesWere) {
			t.Errorf("two Encodes share memory, of %s", short(text))
		}
		clear(b[:cap(b)])
		if told(first) != was || told(x) != was {
			t.Errorf("Decode shares memory with bytes, of %s", short(text))
		}
		if again, _ := format.Encode(x); !bytes.Equal(again, bytesWere) {
			t.Errorf("Encode answers another time %s, of %s", shown(again), short(text))
		}
	}
}
