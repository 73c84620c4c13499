package asm_test

import (
	"testing"

	"yieldshape/api"
	"yieldshape/asm"
	"yieldshape/gen"
	"yieldshape/syn"
)

// TestReadme: the examples of README.md.
func TestReadme(t *testing.T) {
	program, _ := syn.Read("box b num 2; task t { send b (1 + 2) * 3; }")
	module, f := gen.Compile(program)
	if f != (api.Fault{}) {
		t.Fatal(f)
	}
	wantBoth(t, module, "box 1 2\ntask 0 0 0\n\tpush 1\n\tpush 2\n\tadd\n\tpush 3\n\tmul\n\tsend 0\n\tend\n")
	if _, f := asm.Read("task 0 0 0\n\tpush -7\n\tout 1\n"); f != (api.Fault{Err: api.ErrForm, At: 2}) {
		t.Errorf("a number behind out: %v", f)
	}
}
