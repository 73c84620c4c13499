package shelf_test

import (
	"testing"

	"yieldshape/api"
	"yieldshape/gen"
	"yieldshape/verify"
)

// TestL1Modules: what is read of the text, compiled; and it runs without getting stuck.
func TestL1Modules(t *testing.T) {
	for _, name := range names {
		want, f := gen.Compile(read(t, name))
		if f != (api.Fault{}) {
			t.Fatalf("%s: Compile: %v", name, f)
		}
		got := module(t, name)
		if !sameModules(got, want) {
			t.Errorf("Module(%q) = %v; want %v", name, got, want)
		}
		if w := verify.Verify(got); w != (api.Where{}) {
			t.Errorf("%s: Verify: %v", name, w)
		}
	}
}

// TestL1ModulesByHand: the unit of double is its loop, and the end.
func TestL1ModulesByHand(t *testing.T) {
	code := []api.Instr{
		{Op: api.OpTruth, A: 1}, {Op: api.OpElse, A: 7}, {Op: api.OpRecv}, {Op: api.OpPush, N: 2},
		{Op: api.OpMul}, {Op: api.OpOut}, {Op: api.OpJump}, {Op: api.OpEnd},
	}
	want := api.Module{Boxes: []api.BoxInfo{{Type: 1, Cap: 20}}, Units: []api.Unit{{Kind: api.DTask, Code: code}}}
	if got := module(t, "double"); !sameModules(got, want) {
		t.Errorf("Module(double) = %v; want %v", got, want)
	}
}

// TestL1HowMany: boxes, and units of each kind, as the document's texts have them.
func TestL1HowMany(t *testing.T) {
	type count struct{ boxes, fns, gens, tasks int }
	wants := map[string]count{
		"average": {1, 0, 1, 1}, "fact": {1, 1, 0, 1}, "fib": {1, 0, 1, 1}, "gate": {2, 0, 0, 1}, "gcd": {1, 1, 0, 1},
		"greatest": {1, 1, 0, 1}, "merge": {2, 0, 0, 1}, "pingpong": {2, 0, 0, 2}, "prime": {1, 1, 0, 1},
		"rounds": {1, 0, 2, 1}, "sieve": {3, 0, 0, 4}, "turns": {1, 0, 1, 1}, "zip": {2, 0, 0, 1},
	}
	for _, name := range names {
		want, special := wants[name]
		if !special {
			want = count{boxes: 1, tasks: 1}
		}
		m := module(t, name)
		got := count{boxes: len(m.Boxes)}
		for _, u := range m.Units {
			switch u.Kind {
			case api.DFn:
				got.fns++
			case api.DGen:
				got.gens++
			case api.DTask:
				got.tasks++
			}
		}
		if got != want {
			t.Errorf("%s has %+v; want %+v", name, got, want)
		}
	}
}
