package image_test

import (
	"math/rand"
	"slices"
	"testing"

	"yieldshape/image"
)

// TestF1SumOfKnownBytes: sums that are known elsewhere.
func TestF1SumOfKnownBytes(t *testing.T) {
	for _, c := range []struct {
		b    string
		want uint16
	}{
		{"", 0xFFFF},
		{"123456789", 0x29B1},
		{"A", 0xB915},
		{"\x00", 0xE1F0},
		{"\xff", 0xFF00},
		{"\x00\x00", 0x1D0F},
		{"\xff\xff", 0x0000},
		{"\x00\x00\x00\x00", 0x84C0},
	} {
		if s := image.Sum([]byte(c.b)); s != c.want {
			t.Errorf("Sum(%q) = %#x; want %#x", c.b, s, c.want)
		}
	}
	if image.Sum([]byte{}) != image.Sum(nil) {
		t.Error("the sums of nil and of a list without entries are not the same")
	}
}

// divided is what is left when the bits of b, the first 16 of them turned over and 16 noughts behind them, are divided by 1 0001 0000 0010 0001 without carrying.
func divided(b []byte) uint16 {
	var bits []byte
	for _, c := range append(slices.Clone(b), 0, 0) {
		for place := 7; place >= 0; place-- {
			bits = append(bits, c>>place&1)
		}
	}
	for i := range 16 {
		bits[i] ^= 1
	}
	for i := 0; i+16 < len(bits); i++ {
		if bits[i] == 1 {
			for _, d := range []int{0, 4, 11, 16} {
				bits[i+d] ^= 1
			}
		}
	}
	left := uint16(0)
	for _, bit := range bits[len(bits)-16:] {
		left = left<<1 | uint16(bit)
	}
	return left
}

// TestF1SumIsWhatADivisionLeaves: of all lists of up to two bytes, and of random ones.
func TestF1SumIsWhatADivisionLeaves(t *testing.T) {
	check := func(b ...byte) {
		t.Helper()
		if got, want := image.Sum(b), divided(b); got != want {
			t.Fatalf("Sum(%v) = %#x; want %#x", b, got, want)
		}
	}
	check()
	for c := range 256 {
		check(byte(c))
		for d := range 256 {
			check(byte(c), byte(d))
		}
	}
	r := rand.New(rand.NewSource(6))
	for range 2000 {
		b := make([]byte, r.Intn(100))
		r.Read(b)
		check(b...)
	}
	long := make([]byte, 70000)
	r.Read(long)
	check(long...)
}

// TestF1SumOfWhatBearsItsSum: behind its own sum a list has none.
func TestF1SumOfWhatBearsItsSum(t *testing.T) {
	r := rand.New(rand.NewSource(7))
	for range 2000 {
		b := make([]byte, r.Intn(50))
		r.Read(b)
		if s := image.Sum(sealed(b...)); s != 0 {
			t.Fatalf("Sum(%v) = %#x; want 0", sealed(b...), s)
		}
	}
}
