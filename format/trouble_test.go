package format

import (
	"errors"
	"slices"
	"strings"
	"testing"

	"haystack/api"
	"haystack/crc"
	"haystack/fm"
)

// why answers why b is no index.
func why(b []byte) error {
	_, err := decoded(b)
	return err
}

// Why bytes are no index is wrapped: errors.Is finds it, the number is told of it, and it says which part is to blame.
func TestTroubles(t *testing.T) {
	x, _ := fm.Build(api.Config{Shape: 2, Kind: 1, Sample: 4}, []byte("abracadabra"))
	b := written(x)
	h := toldBy(b[:headSize])
	noConfig, noRow, noLengths := h, h, h
	noConfig.config.Kind = 4
	noRow.row = 12
	noLengths.sections[0].sum++
	behind := b[headSize:]
	noCode := append(slices.Repeat([]byte{1}, api.Symbols), behind[api.Symbols:]...)
	noCodeHead := h
	noCodeHead.sections[0].sum = crc.Sum(noCode[:api.Symbols])
	tooMany := h
	tooMany.n = api.MaxText
	for _, c := range []struct {
		what string
		err  error
		want error
		e    api.Errno
		part string
	}{
		{"no byte", why(nil), errShort, api.ErrShort, "head"},
		{"another sign", why([]byte(strings.Repeat("H", headSize))), errForm, api.ErrForm, "sign"},
		{"another sum", why([]byte(sign + strings.Repeat("H", headSize))), errSum, api.ErrSum, "head"},
		{"another Config", why(append(noConfig.bytes(), behind...)), errConfig, api.ErrConfig, "head"},
		{"another Row", why(append(noRow.bytes(), behind...)), errForm, api.ErrForm, "head"},
		{"another sum of a section", why(append(noLengths.bytes(), behind...)), errSum, api.ErrSum, "section"},
		{"lengths that no codes have", why(append(noCodeHead.bytes(), noCode...)), errForm, api.ErrForm, "section 1"},
		{"too few symbols", why(append(tooMany.bytes(), behind...)), errForm, api.ErrForm, "section 2"},
		{"a byte less", why(b[:len(b)-1]), errShort, api.ErrShort, "sections"},
		{"a byte more", why(append(b, 0)), errForm, api.ErrForm, "behind"},
	} {
		if !errors.Is(c.err, c.want) || c.err == c.want || !strings.Contains(c.err.Error(), c.part) || !strings.Contains(c.err.Error(), c.want.Error()) {
			t.Errorf("%s: %v wraps no %v of %s", c.what, c.err, c.want, c.part)
		}
		if got := numberOf(errors.Join(errors.New("ahead"), c.err)); got != c.e {
			t.Errorf("%s, wrapped: %d, want %d", c.what, got, c.e)
		}
	}
	if err := why(b); err != nil || numberOf(err) != api.OK {
		t.Errorf("%v: nothing is wrong here", err)
	}
}

// Bytes that are cut have no room behind: what is appended to them does not come to stand in those that are left.
func TestCut(t *testing.T) {
	b := []byte("abcdefgh")
	left := rest(b)
	for _, piece := range [][]byte{left.cut(3), left.cut(0), left.cut(2)} {
		_ = append(piece, "----"...)
	}
	if string(b) != "abcdefgh" || string(left) != "fgh" {
		t.Errorf("%q, and %q left", b, left)
	}
}
