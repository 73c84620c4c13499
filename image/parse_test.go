package image_test

import (
	"bytes"
	"math"
	"slices"
	"testing"

	"yieldshape/api"
	"yieldshape/image"
)

// TestF3TooFewAndTooMany bytes: ahead of any look at the sum.
func TestF3TooFewAndTooMany(t *testing.T) {
	wantNoModule(t, nil, api.ErrForm)
	wantNoModule(t, []byte{}, api.ErrForm)
	for c := range 256 {
		wantNoModule(t, []byte{byte(c)}, api.ErrForm)
	}
	for _, n := range []int{60001, 60002, 1 << 16, 1 << 20} {
		wantNoModule(t, make([]byte, n), api.ErrMuch)
		wantNoModule(t, sealed(make([]byte, n-2)...), api.ErrMuch)
		wantNoModule(t, bytes.Repeat([]byte{255}, n), api.ErrMuch)
	}
	// What would be an image, if it were not so long.
	m := slices.Concat([]byte{0, 2, 0, 0}, numbers(59989), make([]byte, 59989), []byte{0, 0, 0})
	wantNoModule(t, sealed(m...), api.ErrMuch)
	wantNoModule(t, make([]byte, 60000), api.ErrFit)
	wantNoModule(t, sealed(make([]byte, 59998)...), api.ErrForm)
}

// TestF3OnlyASum: of no bytes at all it is 0xFFFF, and no bytes are no module.
func TestF3OnlyASum(t *testing.T) {
	for c := range 256 {
		for d := range 256 {
			want := api.ErrFit
			if c == 255 && d == 255 {
				want = api.ErrForm
			}
			wantNoModule(t, []byte{byte(c), byte(d)}, want)
		}
	}
}

// TestF3SumMustFit: of an image no byte may be another one, and no bit; nor may the bytes of the sum be turned round.
func TestF3SumMustFit(t *testing.T) {
	b, _ := image.Bytes(sample())
	for i := range b {
		for c := range 256 {
			other := slices.Clone(b)
			other[i] = byte(c)
			if byte(c) != b[i] {
				wantNoModule(t, other, api.ErrFit)
			}
		}
	}
	n := len(b)
	wantNoModule(t, append(slices.Clone(open(b)), b[n-1], b[n-2]), api.ErrFit)
	wantNoModule(t, b[:n-1], api.ErrFit)
	wantNoModule(t, b[1:], api.ErrFit)
	wantNoModule(t, append(slices.Clone(b), 7), api.ErrFit)
}

// TestF3FitAheadOfForm: what is no module has its sum looked at all the same.
func TestF3FitAheadOfForm(t *testing.T) {
	for _, body := range [][]byte{{}, {0}, {1}, {128}, {0, 0, 0}, {2, 0, 0}, {0, 1}, {128, 0, 0}, bytes.Repeat([]byte{255}, 20)} {
		b := sealed(body...)
		wantNoModule(t, b, api.ErrForm)
		b[len(b)-1] ^= 1
		wantNoModule(t, b, api.ErrFit)
		b[len(b)-1] ^= 1
		b[len(b)-2] ^= 128
		wantNoModule(t, b, api.ErrFit)
	}
}

// TestF3CutAndGoingOn: an image that ends too soon, or goes on behind its end, with a sum that fits.
func TestF3CutAndGoingOn(t *testing.T) {
	for _, m := range []api.Module{{}, ofUnit(api.Unit{}), {Boxes: make([]api.BoxInfo, 2)}, sample()} {
		b, _ := image.Bytes(m)
		body := open(b)
		for n := range body {
			wantNoModule(t, sealed(body[:n]...), api.ErrForm)
		}
		for c := range 256 {
			wantNoModule(t, sealed(append(slices.Clone(body), byte(c))...), api.ErrForm)
		}
		wantNoModule(t, sealed(b...), api.ErrForm)
		wantNoModule(t, sealed(append(slices.Clone(body), body...)...), api.ErrForm)
	}
}

// TestF3CountsThatDoNotFit: of each list less entries than none, and far more than there are bytes for, up to as many as a number can tell.
func TestF3CountsThatDoNotFit(t *testing.T) {
	all := sampleNumbers()
	for _, at := range countsOfSample() {
		for _, n := range []int64{-1, -2, -64, math.MinInt64, 60000, 1 << 31, 1 << 32, 1<<32 + all[at], 1 << 62, math.MaxInt64} {
			l := slices.Clone(all)
			l[at] = n
			wantNoModule(t, sealed(numbers(l...)...), api.ErrForm)
		}
	}
	for _, n := range []int64{-1, -2, math.MinInt64} {
		wantNoModule(t, sealed(numbers(n, 0)...), api.ErrForm)
		wantNoModule(t, sealed(numbers(0, n)...), api.ErrForm)
		wantNoModule(t, sealed(numbers(0, 1, 0, 0, n, 0, 0, 0)...), api.ErrForm)
		wantNoModule(t, sealed(numbers(0, 1, 0, 0, 0, 0, 0, n)...), api.ErrForm)
	}
}

// TestF3NumbersWithNeedlessBytes: of each number of a module, one or more noughts behind its bits.
func TestF3NumbersWithNeedlessBytes(t *testing.T) {
	all := sampleNumbers()
	for at, n := range all {
		own := numbers(n)
		for more := 1; len(own)+more <= 12; more++ {
			long := slices.Clone(own)
			long[len(long)-1] |= 128
			long = append(long, bytes.Repeat([]byte{128}, more-1)...)
			long = append(long, 0)
			wantNoModule(t, sealed(slices.Concat(numbers(all[:at]...), long, numbers(all[at+1:]...))...), api.ErrForm)
		}
	}
	wantNoModule(t, sealed(128, 0, 0), api.ErrForm)
	wantNoModule(t, sealed(0, 128, 0), api.ErrForm)
}

// TestF3NumbersOfMoreBits than 64, or without an end.
func TestF3NumbersOfMoreBits(t *testing.T) {
	ahead := []byte{0, 2, 0, 0, 0, 0, 0, 2, 0, 0}
	for _, c := range []byte{0, 128, 255} {
		nine := bytes.Repeat([]byte{c | 128}, 9)
		for tenth := range 256 {
			b := sealed(slices.Concat(ahead, nine, []byte{byte(tenth)})...)
			if tenth == 1 {
				if m, err := image.Parse(b); err != api.OK || m.Units[0].Code[0].N>>62 == 0 || m.Units[0].Code[0].N>>62 == -1 {
					t.Errorf("Parse(%v) = %v, %v", b, m, err)
				}
				continue
			}
			wantNoModule(t, b, api.ErrForm)
		}
		for _, behind := range [][]byte{{128, 0}, {129, 0}, {129, 1}, {128, 1}, {255, 127}, {128, 128, 1}} {
			wantNoModule(t, sealed(slices.Concat(ahead, nine, behind)...), api.ErrForm)
		}
	}
	for n := range 30 {
		wantNoModule(t, sealed(append(slices.Clone(ahead), bytes.Repeat([]byte{128}, n)...)...), api.ErrForm)
		wantNoModule(t, sealed(append(slices.Clone(ahead), bytes.Repeat([]byte{255}, n)...)...), api.ErrForm)
	}
}

// TestF3WhateverIsWrong: a module need not mean anything.
func TestF3WhateverIsWrong(t *testing.T) {
	for _, m := range []api.Module{
		{Boxes: []api.BoxInfo{{Type: math.MinInt, Cap: math.MaxInt}, {Type: -1, Cap: -1}, {}}},
		{Boxes: make([]api.BoxInfo, 100), Units: make([]api.Unit, 100)},
		ofUnit(api.Unit{Kind: 99, Params: 7, Result: -3, Takes: 1 << 40}),
		ofUnit(api.Unit{Kind: api.DTask, Params: math.MaxInt, Locals: make([]int, 1000)}),
		ofUnit(api.Unit{Kind: api.DBox, Code: []api.Instr{{Op: 0}, {Op: 33}, {Op: -1, A: math.MinInt, N: math.MinInt64}, {Op: math.MaxInt, A: math.MaxInt, N: math.MaxInt64}}}),
		ofUnit(api.Unit{Code: make([]api.Instr, 5000)}),
	} {
		b, err := image.Bytes(m)
		if err != api.OK {
			t.Errorf("Bytes(%v): %v", m, err)
		}
		if n, err := image.Parse(b); err != api.OK || !same(n, m) {
			t.Errorf("Parse(Bytes(%v)) = %v, %v", m, n, err)
		}
	}
}
