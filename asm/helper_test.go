package asm_test

import (
	"slices"
	"testing"

	"yieldshape/api"
	"yieldshape/asm"
)

func same(a, b api.Module) bool {
	return slices.Equal(a.Boxes, b.Boxes) && slices.EqualFunc(a.Units, b.Units, sameUnit)
}

func sameUnit(a, b api.Unit) bool {
	return a.Kind == b.Kind && a.Params == b.Params && a.Result == b.Result && a.Takes == b.Takes &&
		slices.Equal(a.Locals, b.Locals) && slices.Equal(a.Code, b.Code)
}

// short is the beginning of a long text.
func short(s string) string { return s[:min(len(s), 200)] }

func wantText(t *testing.T, m api.Module, want string) {
	t.Helper()
	if s, w := asm.Print(m); s != want || w != (api.Where{}) {
		t.Errorf("Print(%v) = %q, %v; want %q", m, short(s), w, short(want))
	}
}

func wantModule(t *testing.T, text string, want api.Module) {
	t.Helper()
	if m, f := asm.Read(text); !same(m, want) || f != (api.Fault{}) {
		t.Errorf("Read(%q) = %v, %v; want %v", short(text), m, f, want)
	}
}

// wantBoth: m is written so, and read back from it.
func wantBoth(t *testing.T, m api.Module, text string) {
	t.Helper()
	wantText(t, m, text)
	wantModule(t, text, m)
}

func wantNoText(t *testing.T, what string, m api.Module, want api.Where) {
	t.Helper()
	if s, w := asm.Print(m); s != "" || w != want {
		t.Errorf("Print of %s: %d bytes, %v; want nothing beside %v", what, len(s), w, want)
	}
}

func wantNoModule(t *testing.T, text string, want api.Fault) {
	t.Helper()
	if m, f := asm.Read(text); !same(m, api.Module{}) || f != want {
		t.Errorf("Read(%q, %d bytes) = %v, %v; want nothing beside %v", short(text), len(text), m, f, want)
	}
}

func ofUnits(l ...api.Unit) api.Module { return api.Module{Units: l} }

// task is one without numbers, with this code.
func task(code ...api.Instr) api.Unit { return api.Unit{Kind: api.DTask, Code: code} }

// sample has something in each field that a text tells of, and each time something else.
func sample() api.Module {
	return api.Module{
		Boxes: []api.BoxInfo{{Type: 1, Cap: 20}, {Type: -2, Cap: 700}},
		Units: []api.Unit{
			{Kind: api.DGen, Params: 4, Locals: []int{5, -6, 70000}, Result: 8, Takes: 9, Code: []api.Instr{{Op: api.OpPush, N: -12}, {Op: api.OpYield}, {Op: api.OpLoad, A: 14}}},
			{Kind: api.DFn},
			{Kind: api.DTask, Params: -17, Result: -18, Takes: 190, Code: []api.Instr{{Op: api.OpStart, A: -31}, {Op: api.OpPush, N: 1 << 62}}},
			{Kind: api.DFn, Locals: []int{0, 0}},
		},
	}
}

const sampleText = "box 1 20\nbox -2 700\n" +
	"gen 4 8 9 5 -6 70000\n\tpush -12\n\tyield\n\tload 14\n" +
	"fn 0 0 0\n" +
	"task -17 -18 190\n\tstart -31\n\tpush 4611686018427387904\n" +
	"fn 0 0 0 0 0\n"
