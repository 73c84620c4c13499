package image_test

import (
	"bytes"
	"encoding/binary"
	"slices"
	"testing"

	"yieldshape/api"
	"yieldshape/image"
)

// sealed is body with its sum behind it.
func sealed(body ...byte) []byte {
	s := image.Sum(body)
	return append(slices.Clone(body), byte(s>>8), byte(s))
}

// open is an image without its sum.
func open(b []byte) []byte { return b[:len(b)-2] }

// numbers are the bytes of these numbers, by the library's own hand.
func numbers(l ...int64) []byte {
	var b []byte
	for _, n := range l {
		b = binary.AppendVarint(b, n)
	}
	return b
}

func same(a, b api.Module) bool {
	return slices.Equal(a.Boxes, b.Boxes) && slices.EqualFunc(a.Units, b.Units, sameUnit)
}

func sameUnit(a, b api.Unit) bool {
	return a.Kind == b.Kind && a.Params == b.Params && a.Result == b.Result && a.Takes == b.Takes &&
		slices.Equal(a.Locals, b.Locals) && slices.Equal(a.Code, b.Code)
}

// wantImage: m is written as these bytes and their sum, and read back from them.
func wantImage(t *testing.T, m api.Module, body []byte) {
	t.Helper()
	want := sealed(body...)
	if b, err := image.Bytes(m); err != api.OK || !bytes.Equal(b, want) {
		t.Errorf("Bytes(%v) = %v, %v; want %v", m, b, err, want)
	}
	if n, err := image.Parse(want); err != api.OK || !same(n, m) {
		t.Errorf("Parse(%v) = %v, %v; want %v", want, n, err, m)
	}
}

func wantNoBytes(t *testing.T, what string, m api.Module) {
	t.Helper()
	if b, err := image.Bytes(m); err != api.ErrMuch || len(b) != 0 {
		t.Errorf("Bytes of %s: %d bytes, %v; want nothing beside %v", what, len(b), err, api.ErrMuch)
	}
}

func wantNoModule(t *testing.T, b []byte, want api.Errno) {
	t.Helper()
	if m, err := image.Parse(b); err != want || !same(m, api.Module{}) {
		t.Errorf("Parse(%v, %d bytes) = %v, %v; want nothing beside %v", b[:min(len(b), 40)], len(b), m, err, want)
	}
}

// ofUnit is a module with this unit alone.
func ofUnit(u api.Unit) api.Module { return api.Module{Units: []api.Unit{u}} }

// sample has something in each field and each list, and each at another place than in another field.
func sample() api.Module {
	return api.Module{
		Boxes: []api.BoxInfo{{Type: 1, Cap: 20}, {Type: -2, Cap: 700}},
		Units: []api.Unit{
			{Kind: 3, Params: 4, Locals: []int{5, -6, 70000}, Result: 8, Takes: 9, Code: []api.Instr{{Op: 10, A: 11, N: 12}, {Op: -13, A: 1400, N: -15}}},
			{},
			{Kind: -16, Params: 17, Result: -18, Takes: 190, Code: []api.Instr{{Op: 30, A: 31, N: 1 << 62}}},
			{Locals: []int{0, 0}},
		},
	}
}

// sampleNumbers are those of sample, written out by hand.
func sampleNumbers() []int64 {
	return []int64{
		2, 1, 20, -2, 700,
		4,
		3, 4, 3, 5, -6, 70000, 8, 9, 2, 10, 11, 12, -13, 1400, -15,
		0, 0, 0, 0, 0, 0,
		-16, 17, 0, -18, 190, 1, 30, 31, 1 << 62,
		0, 0, 2, 0, 0, 0, 0, 0,
	}
}

// countsOfSample are the places among sampleNumbers of the numbers that tell how many entries follow.
func countsOfSample() []int { return []int{0, 5, 8, 14, 23, 26, 29, 32, 38, 43} }
