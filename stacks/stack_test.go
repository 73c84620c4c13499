package stacks_test

import (
	"math"
	"testing"

	"yieldshape/api"
	"yieldshape/stacks"
)

// TestNew: there are stacks of just those bounds that Play allows.
func TestNew(t *testing.T) {
	odd := []int{math.MinInt, -1, 0, 1, 2, 3, 399, 400, 401, math.MaxInt}
	for _, least := range odd {
		for _, most := range odd {
			_, _, f := stacks.Play(least, most, nil)
			s, err := stacks.New(least, most)
			if err != f.Err || (s == nil) != (err != api.OK) {
				t.Errorf("New(%d, %d) = %v, %v; Play tells %v", least, most, s, err, f)
			}
		}
	}
}

// TestStack: what is done with a stack one by one is what Play does; each word may be asked for, and others are 0.
func TestStack(t *testing.T) {
	l := append(pushes(20), set(0, -5), set(19, -6), pop(3), pop(0), set(7, -7), push(8), pop(12), set(5, 3), push(math.MinInt64))
	s, _ := stacks.New(2, 20)
	for i, op := range l {
		switch op.Kind {
		case api.StPush:
			s.Push(op.V)
		case api.StPop:
			s.Pop(op.N)
		case api.StSet:
			s.Set(op.N, op.V)
		}
		words, _, _ := stacks.Play(2, 20, l[:i+1])
		if s.Len() != len(words) {
			t.Fatalf("%v: %d words; want %v", l[:i+1], s.Len(), words)
		}
		for n, v := range words {
			if s.Word(n) != v {
				t.Fatalf("%v: word %d is %d; want %v", l[:i+1], n, s.Word(n), words)
			}
		}
		for _, n := range []int{math.MinInt, -1, len(words), len(words) + 1, math.MaxInt} {
			if s.Word(n) != 0 {
				t.Fatalf("%v: word %d is %d", l[:i+1], n, s.Word(n))
			}
		}
	}
}

// TestStackRefuses: what is refused does nothing.
func TestStackRefuses(t *testing.T) {
	s, _ := stacks.New(1, 2)
	s.Push(4)
	s.Push(5)
	for what, c := range map[string]struct{ got, want api.Errno }{
		"push":     {s.Push(6), api.ErrMuch},
		"pop":      {s.Pop(3), api.ErrRange},
		"pop of -": {s.Pop(-1), api.ErrRange},
		"set":      {s.Set(2, 9), api.ErrRange},
		"set of -": {s.Set(-1, 9), api.ErrRange},
	} {
		if c.got != c.want {
			t.Errorf("%s: %v; want %v", what, c.got, c.want)
		}
	}
	if s.Len() != 2 || s.Word(0) != 4 || s.Word(1) != 5 {
		t.Errorf("%d words, %d and %d; want 4 and 5", s.Len(), s.Word(0), s.Word(1))
	}
}
