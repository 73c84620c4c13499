package image_test

import (
	"bytes"
	"math"
	"math/bits"
	"slices"
	"testing"

	"yieldshape/api"
	"yieldshape/image"
)

// TestF1NumbersByHand: at the bounds of one byte, two, three, nine and ten.
func TestF1NumbersByHand(t *testing.T) {
	for _, c := range []struct {
		n    int64
		want []byte
	}{
		{0, []byte{0}},
		{-1, []byte{1}},
		{1, []byte{2}},
		{-2, []byte{3}},
		{63, []byte{126}},
		{-64, []byte{127}},
		{64, []byte{128, 1}},
		{-65, []byte{129, 1}},
		{100, []byte{200, 1}},
		{8191, []byte{254, 127}},
		{-8192, []byte{255, 127}},
		{8192, []byte{128, 128, 1}},
		{-8193, []byte{129, 128, 1}},
		{1<<62 - 1, []byte{254, 255, 255, 255, 255, 255, 255, 255, 127}},
		{-1 << 62, []byte{255, 255, 255, 255, 255, 255, 255, 255, 127}},
		{1 << 62, []byte{128, 128, 128, 128, 128, 128, 128, 128, 128, 1}},
		{-1<<62 - 1, []byte{129, 128, 128, 128, 128, 128, 128, 128, 128, 1}},
		{math.MaxInt64, []byte{254, 255, 255, 255, 255, 255, 255, 255, 255, 1}},
		{math.MinInt64, []byte{255, 255, 255, 255, 255, 255, 255, 255, 255, 1}},
	} {
		wantNumber(t, c.n, c.want)
	}
}

// wantNumber: n is written so in every field.
func wantNumber(t *testing.T, n int64, want []byte) {
	t.Helper()
	i := int(n)
	one := []byte{2}
	wantImage(t, api.Module{Boxes: []api.BoxInfo{{Type: i}}}, slices.Concat(one, want, []byte{0, 0}))
	wantImage(t, api.Module{Boxes: []api.BoxInfo{{Cap: i}}}, slices.Concat(one, []byte{0}, want, []byte{0}))
	ahead := []byte{0, 2}
	wantImage(t, ofUnit(api.Unit{Kind: i}), slices.Concat(ahead, want, make([]byte, 5)))
	wantImage(t, ofUnit(api.Unit{Params: i}), slices.Concat(ahead, make([]byte, 1), want, make([]byte, 4)))
	wantImage(t, ofUnit(api.Unit{Locals: []int{i}}), slices.Concat(ahead, make([]byte, 2), one, want, make([]byte, 3)))
	wantImage(t, ofUnit(api.Unit{Result: i}), slices.Concat(ahead, make([]byte, 3), want, make([]byte, 2)))
	wantImage(t, ofUnit(api.Unit{Takes: i}), slices.Concat(ahead, make([]byte, 4), want, make([]byte, 1)))
	ahead = []byte{0, 2, 0, 0, 0, 0, 0, 2}
	wantImage(t, ofUnit(api.Unit{Code: []api.Instr{{Op: i}}}), slices.Concat(ahead, want, make([]byte, 2)))
	wantImage(t, ofUnit(api.Unit{Code: []api.Instr{{A: i}}}), slices.Concat(ahead, make([]byte, 1), want, make([]byte, 1)))
	wantImage(t, ofUnit(api.Unit{Code: []api.Instr{{N: n}}}), slices.Concat(ahead, make([]byte, 2), want))
}

// TestF1Numbers: around each power of two, above and below 0.
func TestF1Numbers(t *testing.T) {
	for place := range 64 {
		for d := int64(-2); d <= 2; d++ {
			n := int64(1)<<place + d
			wantNumber(t, n, numbers(n))
			wantNumber(t, -n, numbers(-n))
		}
	}
	for n := int64(-20000); n <= 20000; n++ {
		wantImage(t, ofUnit(api.Unit{Code: []api.Instr{{N: n}}}), append([]byte{0, 2, 0, 0, 0, 0, 0, 2, 0, 0}, numbers(n)...))
	}
}

// TestF1AsFewBytesAsNeeded: how many follows from how many bits there are.
func TestF1AsFewBytesAsNeeded(t *testing.T) {
	for place := range 64 {
		for _, n := range []int64{1<<place - 1, 1 << place, -1 << place, -1<<place - 1} {
			b, _ := image.Bytes(ofUnit(api.Unit{Code: []api.Instr{{N: n}}}))
			size := bits.Len64(uint64(max(n, ^n))) + 1
			if want := 10 + (size+6)/7 + 2; len(b) != want {
				t.Errorf("with %d there are %d bytes; want %d", n, len(b), want)
			}
		}
	}
}

// TestF2EachField at its place.
func TestF2EachField(t *testing.T) {
	wantImage(t, api.Module{}, []byte{0, 0})
	wantImage(t, api.Module{Boxes: []api.BoxInfo{{Type: 1, Cap: 2}}}, []byte{2, 2, 4, 0})
	wantImage(t, api.Module{Boxes: []api.BoxInfo{{Type: 1, Cap: 2}, {Type: 3, Cap: 4}}, Units: make([]api.Unit, 1)}, []byte{4, 2, 4, 6, 8, 2, 0, 0, 0, 0, 0, 0})
	wantImage(t, ofUnit(api.Unit{Kind: 1, Params: 2, Locals: []int{3, 4, 5}, Result: 6, Takes: 7}), []byte{0, 2, 2, 4, 6, 6, 8, 10, 12, 14, 0})
	wantImage(t, ofUnit(api.Unit{Kind: 4, Code: []api.Instr{{Op: 1, N: -1}, {Op: 25}}}), []byte{0, 2, 8, 0, 0, 0, 0, 4, 2, 0, 1, 50, 0, 0})
	wantImage(t, sample(), numbers(sampleNumbers()...))
}

// TestF2SumBehindAll: the high byte first.
func TestF2SumBehindAll(t *testing.T) {
	for _, c := range []struct {
		m    api.Module
		want []byte
	}{
		{api.Module{}, []byte{0, 0, 0x1D, 0x0F}},
		{api.Module{Boxes: []api.BoxInfo{{Type: 1, Cap: 2}, {Type: -5, Cap: 1000}}}, []byte{4, 2, 4, 9, 208, 15, 0, 180, 147}},
	} {
		if b, err := image.Bytes(c.m); err != api.OK || !bytes.Equal(b, c.want) {
			t.Errorf("Bytes(%v) = %v, %v; want %v", c.m, b, err, c.want)
		}
	}
}

// TestF2NilAndEmpty are the same (Z3).
func TestF2NilAndEmpty(t *testing.T) {
	wantImage(t, api.Module{Boxes: []api.BoxInfo{}, Units: []api.Unit{}}, []byte{0, 0})
	wantImage(t, ofUnit(api.Unit{Locals: []int{}, Code: []api.Instr{}}), []byte{0, 2, 0, 0, 0, 0, 0, 0})
}

// TestF2Counts: of each list, at the bounds of their bytes.
func TestF2Counts(t *testing.T) {
	for _, n := range []int{0, 1, 2, 63, 64, 65, 200, 8191, 8192, 8193} {
		count := numbers(int64(n))
		wantImage(t, api.Module{Boxes: make([]api.BoxInfo, n)}, slices.Concat(count, make([]byte, 2*n), []byte{0}))
		wantImage(t, api.Module{Units: make([]api.Unit, n)}, slices.Concat([]byte{0}, count, make([]byte, 6*n)))
		wantImage(t, ofUnit(api.Unit{Locals: make([]int, n)}), slices.Concat([]byte{0, 2, 0, 0}, count, make([]byte, n), []byte{0, 0, 0}))
		wantImage(t, ofUnit(api.Unit{Code: make([]api.Instr, n)}), slices.Concat([]byte{0, 2, 0, 0, 0, 0, 0}, count, make([]byte, 3*n)))
	}
}

// full are modules whose images have just MaxImage bytes, each filled by another list.
func full() []api.Module {
	return []api.Module{
		{Boxes: make([]api.BoxInfo, 29997)},
		{Units: make([]api.Unit, 9999)},
		ofUnit(api.Unit{Locals: make([]int, 59988)}),
		ofUnit(api.Unit{Code: make([]api.Instr, 19996)}),
		ofUnit(api.Unit{Code: append(make([]api.Instr, 19992), api.Instr{N: math.MinInt64})}),
	}
}

// TestF2Much: at the bound, and beyond it by each byte, be it only by the sum.
func TestF2Much(t *testing.T) {
	for i, m := range full() {
		b, err := image.Bytes(m)
		if err != api.OK || len(b) != api.MaxImage {
			t.Errorf("module %d: %d bytes, %v", i, len(b), err)
		}
		if n, err := image.Parse(b); err != api.OK || !same(n, m) {
			t.Errorf("module %d is not read back: %v", i, err)
		}
	}
	// Each of these has twelve bytes beside its locals.
	for n := 59950; n < 60010; n++ {
		m := ofUnit(api.Unit{Locals: make([]int, n)})
		if b, err := image.Bytes(m); n <= 59988 && (err != api.OK || len(b) != n+12) {
			t.Errorf("%d locals: %d bytes, %v; want %d", n, len(b), err, n+12)
		}
		if n > 59988 {
			wantNoBytes(t, "so many locals", m)
		}
	}
}

// TestF2MuchAtTheEnd: of what comes last, a byte too many is too much.
func TestF2MuchAtTheEnd(t *testing.T) {
	u := api.Unit{Code: make([]api.Instr, 19996)}
	for _, c := range []struct {
		n    int64
		fits bool
	}{{0, true}, {63, true}, {-64, true}, {64, false}, {-65, false}, {math.MaxInt64, false}} {
		u.Code[19995].N = c.n
		b, err := image.Bytes(ofUnit(u))
		if c.fits && (err != api.OK || len(b) != api.MaxImage) {
			t.Errorf("with %d at its end: %d bytes, %v", c.n, len(b), err)
		}
		if !c.fits {
			wantNoBytes(t, "what ends too late", ofUnit(u))
		}
	}
}

// TestF2MuchTooMuch, in each list.
func TestF2MuchTooMuch(t *testing.T) {
	for _, n := range []int{60000, 1 << 16, 1 << 22} {
		wantNoBytes(t, "boxes", api.Module{Boxes: make([]api.BoxInfo, n)})
		wantNoBytes(t, "units", api.Module{Units: make([]api.Unit, n)})
		wantNoBytes(t, "locals", ofUnit(api.Unit{Locals: make([]int, n)}))
		wantNoBytes(t, "code", ofUnit(api.Unit{Code: make([]api.Instr, n)}))
	}
	wantNoBytes(t, "units that fit one by one", api.Module{Units: []api.Unit{{Locals: make([]int, 30000)}, {Code: make([]api.Instr, 10000)}}})
}
