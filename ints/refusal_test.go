package ints

import (
	"errors"
	"testing"

	"haystack/api"
)

// What may not be is an error of a type of its own, which errors.As finds, also where it is wrapped.
func TestRefusals(t *testing.T) {
	x, _ := Of([]uint64{5, 1})
	for _, c := range []struct {
		what string
		err  error
		want api.Errno
	}{
		{"a width", makeable(0, nil), api.ErrArg},
		{"too many numbers", makeable(64, make([]uint64, api.MaxBits/64+1)), api.ErrArg},
		{"a number", makeable(3, []uint64{8}), api.ErrArg},
		{"a row's width", mayBe(api.Ints{}), api.ErrArg},
		{"a row's bits", mayBe(api.Ints{N: 1, Width: 1, Bits: api.Bits{N: 1}}), api.ErrArg},
		{"how many bits a row has", mayBe(api.Ints{N: 1, Width: 1}), api.ErrArg},
		{"the row of a place", place(api.Ints{}, -1), api.ErrArg},
		{"a place", place(x, 2), api.ErrRange},
		{"a place, ahead of a number", puttable(x, -1, 8), api.ErrRange},
		{"a number at a place", puttable(x, 1, 8), api.ErrArg},
	} {
		var r refusal
		if !errors.As(c.err, &r) || r.number != c.want || r.Error() == "" {
			t.Errorf("%s: %v is no refusal with %d that tells why", c.what, c.err, c.want)
		}
		if got := numberOf(errors.Join(errors.New("ahead"), c.err)); got != c.want {
			t.Errorf("%s, wrapped: %d, want %d", c.what, got, c.want)
		}
	}
	for _, err := range []error{makeable(3, []uint64{7}), makeable(1, nil), mayBe(x), place(x, 1), puttable(x, 1, 7)} {
		if err != nil || numberOf(err) != api.OK {
			t.Errorf("%v: nothing is refused here", err)
		}
	}
}
