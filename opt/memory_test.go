package opt_test

import (
	"math/rand"
	"reflect"
	"runtime"
	"slices"
	"testing"

	"yieldshape/api"
	"yieldshape/opt"
)

// sample has something to do in each unit, but for one; sampleShort is what is left of it.
func sample() api.Module {
	m := around(code("push 1, drop, recv 0, push 2, push 3, add, add, out, jump 2, end"))
	m.Units = append(m.Units, task(code("truth 1, else 0, end")))
	return m
}

func sampleShort() api.Module {
	m := sample()
	m.Units[0].Code = code("recv 0, push 5, add, out, jump 0, end")
	m.Units[2].Code = code("push 1, yield, drop, end")
	m.Units[3].Code = code("end")
	return m
}

// roomy is m with something behind each list, in its spare room.
func roomy(m api.Module) api.Module {
	m.Boxes = append(slices.Clone(m.Boxes), api.BoxInfo{Type: 77, Cap: 78})[:len(m.Boxes)]
	units := make([]api.Unit, 0, len(m.Units)+1)
	for _, u := range m.Units {
		u.Locals = append(slices.Clone(u.Locals), 79)[:len(u.Locals)]
		u.Code = append(slices.Clone(u.Code), api.Instr{Op: api.OpEnd, A: 81, N: 82})[:len(u.Code)]
		units = append(units, u)
	}
	m.Units = append(units, task(code("end")))[:len(units)]
	return m
}

// wide is m with the spare room of its lists.
func wide(m api.Module) api.Module {
	out := api.Module{Boxes: m.Boxes[:cap(m.Boxes)]}
	for _, u := range m.Units[:cap(m.Units)] {
		u.Locals, u.Code = u.Locals[:cap(u.Locals)], u.Code[:cap(u.Code)]
		out.Units = append(out.Units, u)
	}
	return out
}

// TestZ2ArgumentsAreOnlyRead: nor is the spare room behind them changed, or looked at.
func TestZ2ArgumentsAreOnlyRead(t *testing.T) {
	m := roomy(sample())
	before := full(wide(m))
	wantModule(t, "with spare room", m, sampleShort())
	if !reflect.DeepEqual(full(wide(m)), before) {
		t.Errorf("%v becomes %v", before, wide(m))
	}
	m.Units[3].Code = m.Units[3].Code[:2]
	wantWhere(t, "an end in the spare room", m, api.Where{Err: api.ErrRange, Unit: 3, At: 1})
	if !reflect.DeepEqual(full(wide(m)), before) {
		t.Errorf("%v becomes %v", before, wide(m))
	}
	// A rule does not look there, either, for what follows.
	want := api.Module{Units: []api.Unit{task(code("end, push 1, neg"))}}
	wantModule(t, "an end follows in the spare room", roomy(want), want)
}

func clearLists(m api.Module) {
	clear(m.Boxes)
	for _, u := range m.Units {
		clear(u.Locals)
		clear(u.Code)
	}
	clear(m.Units)
}

// TestZ2AnswersAreTheCallers: whoever changes what was handed in, or an answer and its spare room, changes no other one, nor another list of the same one.
func TestZ2AnswersAreTheCallers(t *testing.T) {
	for _, of := range []struct{ m, want api.Module }{{sample(), sampleShort()}, {sampleShort(), sampleShort()}} {
		got, other := shorter(t, of.m), shorter(t, of.m)
		clearLists(of.m)
		clearLists(wide(other))
		if !same(got, of.want) {
			t.Errorf("the answer becomes %v", got)
		}
		got.Boxes = append(got.Boxes, slices.Repeat([]api.BoxInfo{{Type: 9}}, 3)...)
		for i := range got.Units {
			u := &got.Units[i]
			u.Locals = append(u.Locals, 1, 2, 3, 4, 5)
			u.Code = append(u.Code, slices.Repeat([]api.Instr{{Op: 2}}, 9)...)
		}
		for i, u := range of.want.Units {
			g := got.Units[i]
			if !slices.Equal(g.Locals[:len(u.Locals)], u.Locals) || !slices.Equal(g.Code[:len(u.Code)], u.Code) {
				t.Errorf("unit %d becomes %v, when the others' lists grow", i, g)
			}
		}
	}
}

// TestZ3Empty: lists without entries are as nil.
func TestZ3Empty(t *testing.T) {
	for _, m := range []api.Module{
		{Units: []api.Unit{{Kind: api.DTask, Code: code("end")}}},
		{Boxes: []api.BoxInfo{}, Units: []api.Unit{{Kind: api.DTask, Locals: []int{}, Code: code("end")}}},
	} {
		wantModule(t, "without boxes and locals", m, m)
	}
	wantWhere(t, "without units", api.Module{Boxes: []api.BoxInfo{}, Units: []api.Unit{}}, api.Where{Err: api.ErrNone})
	wantWhere(t, "without code", api.Module{Units: []api.Unit{{Kind: api.DTask, Code: []api.Instr{}}}}, api.Where{Err: api.ErrMany})
}

// TestZ1SameAnswers: what was asked ahead does not matter.
func TestZ1SameAnswers(t *testing.T) {
	k := maker{rand.New(rand.NewSource(3))}
	for range 200 {
		wantModule(t, "again", sample(), sampleShort())
		opt.Module(around(k.sense(40)))
		opt.Module(api.Module{})
	}
}

// TestAsGreatAsMayBe: code of which each pass does one thing alone.
func TestAsGreatAsMayBe(t *testing.T) {
	const half = api.MaxCode/2 - 1
	wantCode(t, row("end", repeated("push 1", half), repeated("drop", half), "end"), "end, end")
	wantCode(t, row("end", repeated("push 1", half), repeated("add", half-1), "drop, end"), "end, end")
	wantCode(t, row("end", repeated("jump 0", half), "truth 1", repeated("not", half-1), "end"), row("end", repeated("jump 0", half), "truth 1, end"))
	var chain []api.Instr // each goes over the next ones, which are gone first
	for n := range api.MaxCode - 1 {
		chain = append(chain, api.Instr{Op: api.OpJump, A: min(n+2, api.MaxCode-1)})
	}
	wantInstrs(t, append(chain, api.Instr{Op: api.OpEnd}), code("end"))
	m := around(code(row("end", repeated("push 1", half), repeated("drop", half), "end")))
	m.Units = slices.Repeat(m.Units[:1], api.MaxUnits)
	if got := shorter(t, m); len(got.Units[0].Code) != 2 || len(got.Units[api.MaxUnits-1].Code) != 2 {
		t.Errorf("all units: %v", got)
	}
}

// TestNoMuchTooMuchRoom: however many passes there are, they need little room beside the module.
func TestNoMuchTooMuchRoom(t *testing.T) {
	const half = api.MaxCode/2 - 1
	m := around(code(row("end", repeated("push 1", half), repeated("drop", half), "end")))
	var before, after runtime.MemStats
	runtime.ReadMemStats(&before)
	opt.Module(m)
	runtime.ReadMemStats(&after)
	if n := after.TotalAlloc - before.TotalAlloc; n > 1<<20 {
		t.Errorf("%d bytes of room", n)
	}
}
