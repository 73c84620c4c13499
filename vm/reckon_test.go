package vm_test

import (
	"testing"

	"yieldshape/api"
	"yieldshape/vm"
)

// TestReckon: what comes of two words, or the trap; whatever it is given, it doesn't panic.
func TestReckon(t *testing.T) {
	for _, a := range edges {
		for _, b := range edges {
			for op := api.OpAdd; op <= api.OpGe; op++ {
				v, trap := vm.Reckon(op, a, b)
				word := words[op-1]
				if b == 0 && (word == "div" || word == "mod") {
					if v != 0 || trap != api.TrapZero {
						t.Errorf("%d %s 0: %d, trap %d", a, word, v, trap)
					}
				} else if v != ofTwo(word, a, b) || trap != 0 {
					t.Errorf("%d %s %d: %d, trap %d; want %d", a, word, b, v, trap, ofTwo(word, a, b))
				}
			}
		}
	}
	for _, a := range []int64{0, 1} {
		for _, b := range []int64{0, 1} {
			if and, trap := vm.Reckon(api.OpAnd, a, b); and != a*b || trap != 0 {
				t.Errorf("%d and %d: %d, trap %d", a, b, and, trap)
			}
			if or, trap := vm.Reckon(api.OpOr, a, b); or != max(a, b) || trap != 0 {
				t.Errorf("%d or %d: %d, trap %d", a, b, or, trap)
			}
		}
	}
	for _, op := range []int{-1, 0, api.OpPush, api.OpJump, 99} {
		if _, trap := vm.Reckon(op, 1, 0); trap != 0 {
			t.Errorf("%d, which reckons nothing: trap %d", op, trap)
		}
	}
}
