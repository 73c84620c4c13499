package verify_test

import (
	"math"
	"slices"
	"testing"

	"yieldshape/api"
)

// headUnit is a unit of a kind with which nothing is wrong: only what its kind has is set.
func headUnit(kind int) api.Unit {
	switch kind {
	case api.DFn:
		return fn(number, "push 1, ret")
	case api.DGen:
		return gen(number, truth, "end")
	}
	return task("end")
}

var kinds = []int{api.DFn, api.DGen, api.DTask}

// wantHead: a unit of each of these kinds, changed like that, is wrong by err.
func wantHead(t *testing.T, what string, err api.Errno, of []int, change func(u *api.Unit)) {
	t.Helper()
	for _, kind := range of {
		u := headUnit(kind)
		change(&u)
		want := api.Where{}
		if err != api.OK {
			want = api.Where{Err: err, Unit: unitHere}
		}
		wantWhere(t, what, around(u), want)
	}
}

func TestG2Kind(t *testing.T) {
	wantHead(t, "as it stands", api.OK, kinds, func(u *api.Unit) {})
	for _, n := range []int{0, api.DBox, 5, -2, math.MinInt, math.MaxInt} {
		wantHead(t, "no such kind", api.ErrKind, kinds, func(u *api.Unit) { u.Kind = n })
		wantHead(t, "no such kind, and all else", api.ErrKind, kinds, func(u *api.Unit) {
			*u = api.Unit{Kind: n, Params: -1, Locals: []int{3}, Result: 3, Takes: 3}
		})
	}
}

func TestG2HowMany(t *testing.T) {
	locals := func(n int) []int { return slices.Repeat([]int{number}, n) }
	wantHead(t, "all locals", api.OK, kinds, func(u *api.Unit) { u.Locals = locals(api.MaxLocals) })
	wantHead(t, "a local more", api.ErrMany, kinds, func(u *api.Unit) { u.Locals = locals(api.MaxLocals + 1) })
	wantHead(t, "a great many", api.ErrMany, kinds, func(u *api.Unit) { u.Locals = locals(1 << 20) })
	some := []int{api.DFn, api.DGen}
	for n := range api.MaxArgs + 1 {
		wantHead(t, "parameters", api.OK, some, func(u *api.Unit) { u.Params, u.Locals = n, locals(n) })
		wantHead(t, "parameters, and a local", api.OK, some, func(u *api.Unit) { u.Params, u.Locals = n, locals(n+1) })
		wantHead(t, "more than there are locals", api.ErrMany, kinds, func(u *api.Unit) { u.Params, u.Locals = n+1, locals(n) })
	}
	for _, n := range []int{api.MaxArgs + 1, api.MaxLocals, math.MaxInt, -1, math.MinInt} {
		wantHead(t, "so many parameters", api.ErrMany, kinds, func(u *api.Unit) { u.Params, u.Locals = n, locals(api.MaxLocals) })
	}
	wantHead(t, "a task's locals", api.OK, kinds, func(u *api.Unit) { u.Locals = locals(3) })
	for n := 1; n <= api.MaxArgs; n++ {
		wantHead(t, "a task's parameter", api.ErrMany, []int{api.DTask}, func(u *api.Unit) { u.Params, u.Locals = n, locals(api.MaxArgs) })
	}
	wantHead(t, "no instruction", api.ErrMany, kinds, func(u *api.Unit) { u.Code = nil })
	wantHead(t, "no instruction", api.ErrMany, kinds, func(u *api.Unit) { u.Code = []api.Instr{} })
	more := func(u *api.Unit, n int) { u.Code = append(u.Code, make([]api.Instr, n-len(u.Code))...) }
	fill := func(u *api.Unit) {
		for i := range u.Code {
			u.Code[i].Op = max(u.Code[i].Op, 1)
		}
	}
	wantHead(t, "all instructions", api.OK, kinds, func(u *api.Unit) { more(u, api.MaxCode); fill(u) })
	wantHead(t, "an instruction more", api.ErrMany, kinds, func(u *api.Unit) { more(u, api.MaxCode+1); fill(u) })
	wantHead(t, "instructions without a kind", api.ErrMany, kinds, func(u *api.Unit) { more(u, api.MaxCode+1); u.Code[0].Op = 0 })
	wantHead(t, "and types", api.ErrMany, kinds, func(u *api.Unit) { u.Code, u.Result, u.Takes, u.Locals = nil, 3, 3, []int{3} })
}

func TestG2Types(t *testing.T) {
	for _, n := range []int{0, 3, -1, 9, api.Handle, ofG, ofH, math.MinInt, math.MaxInt} {
		wantHead(t, "result", api.ErrType, []int{api.DFn, api.DGen}, func(u *api.Unit) { u.Result = n })
		wantHead(t, "takes", api.ErrType, []int{api.DGen}, func(u *api.Unit) { u.Takes = n })
		wantHead(t, "a task has no result", api.OK, []int{api.DTask}, func(u *api.Unit) { u.Result = n })
		wantHead(t, "what is no generator takes nothing", api.OK, []int{api.DFn, api.DTask}, func(u *api.Unit) { u.Takes = n })
	}
	for _, n := range []int{number, truth, ofG, ofH} {
		wantHead(t, "a local", api.OK, kinds, func(u *api.Unit) { u.Locals = []int{number, n} })
	}
	for _, n := range []int{0, 3, -1, 9, api.Handle + unitF, api.Handle + unitNone, api.Handle + unitEnd, api.Handle + unitHere + 1, api.Handle + 30, math.MinInt, math.MinInt + api.Handle, math.MaxInt} {
		wantHead(t, "a local", api.ErrType, kinds, func(u *api.Unit) { u.Locals = []int{number, n} })
		wantHead(t, "a parameter", api.ErrType, []int{api.DFn, api.DGen}, func(u *api.Unit) { u.Params, u.Locals = 1, []int{n} })
	}
	wantHead(t, "its own number", api.ErrType, []int{api.DFn, api.DTask}, func(u *api.Unit) { u.Locals = []int{api.Handle + unitHere} })
	wantHead(t, "its own number", api.OK, []int{api.DGen}, func(u *api.Unit) { u.Locals = []int{api.Handle + unitHere} })
	wantHead(t, "the last local of all", api.ErrType, kinds, func(u *api.Unit) {
		u.Locals = append(slices.Repeat([]int{truth}, api.MaxLocals-1), 3)
	})
	late := around(task("end", api.Handle+6), headUnit(api.DGen))
	wantGood(t, "a generator that comes later", late)
	late.Units[6].Params = -1
	wantWhere(t, "a generator that is wrong itself", late, api.Where{Err: api.ErrMany, Unit: 6})
	late.Units[6].Kind = 9
	wantWhere(t, "no generator", late, api.Where{Err: api.ErrType, Unit: 5})
}

func TestG2Forms(t *testing.T) {
	for _, op := range []int{0, -1, api.OpAlive + 1, math.MinInt, math.MaxInt} {
		u := task("end, end")
		u.Code[1] = api.Instr{Op: op, A: -1}
		wantFlowOf(t, "no such instruction", u, api.ErrKind, 1)
		u.Code[0] = api.Instr{Op: api.OpTruth, A: 2}
		wantFlowOf(t, "the first one", u, api.ErrRange, 0)
	}
	good := map[int][]int{
		api.OpTruth: {0, 1},
		api.OpLoad:  {0, 1, 2}, api.OpStore: {0, 1, 2},
		api.OpJump: {0, 1, 2, 3, 4}, api.OpElse: {0, 1, 2, 3, 4},
		api.OpCall: {unitF, unitNone}, api.OpStart: {unitG, unitH},
		api.OpSend: {boxNumber, boxTruth}, api.OpRecv: {boxNumber, boxTruth},
	}
	for op := api.OpPush; op <= api.OpAlive; op++ {
		for _, a := range []int{math.MinInt, -1, 0, 1, 2, 3, 4, 5, 6, 7, api.Handle, api.Handle + 1, math.MaxInt} {
			// Behind its end a task may do what it likes.
			u := task("end, end, end, end, end", number, truth, ofG)
			u.Code[3] = api.Instr{Op: op, A: a, N: math.MinInt64}
			err := api.OK
			if l, asked := good[op]; asked && !slices.Contains(l, a) {
				err = api.ErrRange
			}
			wantFlowOf(t, words[op-1], u, err, 3)
		}
	}
}

// TestG2FormsOfOtherUnits: numbers of instructions and locals are those of the unit itself.
func TestG2FormsOfOtherUnits(t *testing.T) {
	m := around(task("jump 1, end"), task("end", number), task("end, load 0"))
	wantWhere(t, "another's local", m, api.Where{Err: api.ErrRange, Unit: 7, At: 1})
	m.Units[7] = task("end, jump 2")
	wantWhere(t, "another's instruction", m, api.Where{Err: api.ErrRange, Unit: 7, At: 1})
	m.Units[7] = task("end, start 8")
	m.Units = append(m.Units, api.Unit{Kind: api.DFn})
	wantWhere(t, "a function isn't started", m, api.Where{Err: api.ErrRange, Unit: 7, At: 1})
	m.Units[7] = task("end, call 8")
	wantWhere(t, "a function that is wrong itself", m, api.Where{Err: api.ErrMany, Unit: 8})
}
