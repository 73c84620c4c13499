package mail_test

import (
	"math"
	"slices"
	"testing"

	"yieldshape/api"
	"yieldshape/mail"
)

// TestNew: there are boxes of just as many places as Play allows.
func TestNew(t *testing.T) {
	for _, places := range []int{math.MinInt, -1, 0, 1, 2, 19, 20, 21, math.MaxInt} {
		_, _, want := mail.Play(places, nil)
		b, err := mail.New(places)
		if err != want || (b == nil) != (err != api.OK) {
			t.Errorf("New(%d) = %v, %v; Play tells %v", places, b, err, want)
		}
	}
}

// TestBox: it is full and empty where Play refuses, and what is refused does nothing.
func TestBox(t *testing.T) {
	for places := 1; places <= api.MaxCap; places++ {
		b, _ := mail.New(places)
		count, next, first := 0, int64(1), int64(1)
		for i := range 10 * places {
			if b.Full() != (count == places) || b.Empty() != (count == 0) {
				t.Fatalf("%d places, %d words: full %v, empty %v", places, count, b.Full(), b.Empty())
			}
			if i%(3*places) < 2*places { // up to its brim and beyond, then down again
				b.Put(next)
				if count < places {
					count, next = count+1, next+1
				}
				continue
			}
			want := int64(0)
			if count > 0 {
				want, first, count = first, first+1, count-1
			}
			if v := b.Take(); v != want {
				t.Fatalf("%d places: %d is taken; want %d", places, v, want)
			}
		}
		for range count {
			if v := b.Take(); v != first {
				t.Fatalf("%d places: %d is left; want %d", places, v, first)
			}
			first++
		}
		if v := b.Take(); v != 0 || !b.Empty() {
			t.Fatalf("%d places: %d comes out of an empty box", places, v)
		}
	}
}

// TestWords: those that are in the box, wherever they lie in it; whoever changes them changes nothing in it.
func TestWords(t *testing.T) {
	for places := 1; places <= api.MaxCap; places++ {
		b, _ := mail.New(places)
		var want []int64
		for i := range int64(5 * places) {
			if len(want) == places {
				b.Take()
				want = want[1:]
			}
			b.Put(i)
			want = append(want, i)
			for range 2 {
				l := b.Words()
				if !slices.Equal(l, want) {
					t.Fatalf("%d places: %v is in the box; want %v", places, l, want)
				}
				clear(l[:cap(l)])
			}
		}
		for !b.Empty() {
			if v := b.Take(); v != want[0] {
				t.Fatalf("%d places: %d is taken; want %d", places, v, want[0])
			}
			want = want[1:]
		}
		if l := b.Words(); len(l) > 0 {
			t.Fatalf("%d places: %v is in an empty box", places, l)
		}
	}
}
