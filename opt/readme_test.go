package opt_test

import (
	"testing"

	"yieldshape/api"
	"yieldshape/gen"
	"yieldshape/syn"
)

// TestReadme: the examples of README.md.
func TestReadme(t *testing.T) {
	program, _ := syn.Read("box b num 2; task t { send b (1 + 2) * 3; }")
	module, f := gen.Compile(program)
	if f != (api.Fault{}) {
		t.Fatal(f)
	}
	wantModule(t, "the program", module, api.Module{
		Boxes: []api.BoxInfo{{Type: number, Cap: 2}},
		Units: []api.Unit{{Kind: api.DTask, Code: code("push 9, send 0, end")}},
	})
}
