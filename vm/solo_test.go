package vm_test

import (
	"math"
	"slices"
	"testing"

	"yieldshape/api"
	"yieldshape/vm"
)

// several has three tasks among other units, and a box of each type.
func several() api.Module {
	return api.Module{
		Boxes: []api.BoxInfo{{Type: number, Cap: 1}, {Type: truth, Cap: 1}},
		Units: []api.Unit{
			fn(0, 0, "push 1, ret"),
			task("push 10, out, end"),
			generator(0, 0, "end"),
			task("push 11, out, end"),
			task("push 12, out, end"),
			fn(0, 0, "push 1, ret"),
		},
	}
}

func TestI4WhichTask(t *testing.T) {
	m := several()
	for n := range 3 {
		want := api.Report{State: api.Done, Out: []int64{int64(10 + n)}, Sent: [][]int64{nil, nil}, Took: []int{0, 0}, Steps: 3}
		wantReport(t, "several", m, n, [][]int64{nil, nil}, 3, want)
	}
	for _, n := range []int{-1, 3, 4, 5, 6, 1 << 32, math.MinInt, math.MaxInt} {
		wantErr(t, "several", m, n, [][]int64{nil, nil}, 3, api.ErrRange)
	}
}

func TestI4HowManySteps(t *testing.T) {
	for _, most := range []int{0, 1, 2, 3, api.MaxSolo - 1, api.MaxSolo} {
		wantErr(t, "several", several(), 0, [][]int64{nil, nil}, most, api.OK)
	}
	for _, most := range []int{-1, -2, api.MaxSolo + 1, 1 << 32, math.MinInt, math.MaxInt} {
		wantErr(t, "several", several(), 0, [][]int64{nil, nil}, most, api.ErrRange)
	}
}

func TestI4Feeds(t *testing.T) {
	m := several()
	for _, feeds := range [][][]int64{nil, {}, {nil}, {nil, nil, nil}, {{1}, {1}, {1}}, {nil, {2}, nil}, {nil, nil, nil, nil}} {
		wantErr(t, "several", m, 0, feeds, 1, api.ErrMany)
	}
	for _, feed := range [][]int64{nil, {}, {0}, {1}, {0, 1, 1, 0}} {
		wantErr(t, "several", m, 0, [][]int64{{least, 0, greatest}, feed}, 1, api.OK)
	}
	for _, feed := range [][]int64{{2}, {-1}, {0, 1, 2}, {2, 1, 0}, {1, -1, 1}, {least}, {greatest}, {1 << 32}, {1<<32 + 1}} {
		wantErr(t, "several", m, 0, [][]int64{nil, feed}, 1, api.ErrType)
	}
	none := api.Module{Units: []api.Unit{task("end")}}
	wantErr(t, "no box", none, 0, nil, 1, api.OK)
	wantErr(t, "no box", none, 0, [][]int64{}, 1, api.OK)
	wantErr(t, "no box", none, 0, [][]int64{nil}, 1, api.ErrMany)
	// Each box of truths is looked at, whoever receives from it.
	m.Boxes = []api.BoxInfo{{Type: truth, Cap: 1}, {Type: number, Cap: 1}, {Type: truth, Cap: 2}}
	wantErr(t, "three boxes", m, 1, [][]int64{{1}, {2}, {0}}, 1, api.OK)
	wantErr(t, "three boxes", m, 1, [][]int64{{2}, {2}, {0}}, 1, api.ErrType)
	wantErr(t, "three boxes", m, 1, [][]int64{{1}, {2}, {3}}, 1, api.ErrType)
}

// TestI4WhatVerifySays comes ahead of all, whichever error it is.
func TestI4WhatVerifySays(t *testing.T) {
	for _, c := range []struct {
		err api.Errno
		m   api.Module
	}{
		{api.ErrNone, api.Module{}},
		{api.ErrNone, module(fn(0, 0, "push 1, ret"))},
		{api.ErrKind, module(api.Unit{})},
		{api.ErrMany, module(task("end"), api.Unit{Kind: api.DTask})},
		{api.ErrMany, api.Module{Units: slices.Repeat([]api.Unit{task("end")}, api.MaxUnits+1)}},
		{api.ErrType, module(task("push 1, not, drop, end"))},
		{api.ErrRange, module(task("jump 5"))},
		{api.ErrRange, module(task("push 1"))},
		{api.ErrStuck, module(task("add, end"))},
		{api.ErrStuck, module(task("push 1, end"))},
		{api.ErrFit, module(task("end"), task("jump 0"), task("truth 1, else 0, ret"))},
		{api.ErrFit, module(task("push 1, send 0, end"), task("push 1, send 0, end"))},
		{api.ErrState, module(task("load 0, out, end", number))},
		{api.ErrMuch, module(task(row(repeated("push 1", 301), "end")))},
	} {
		for _, n := range []int{-1, 0, 1, 9} {
			for _, most := range []int{-1, 0, 7, api.MaxSolo + 1} {
				wantErr(t, "verified", c.m, n, [][]int64{{1}}, most, c.err)
				wantErr(t, "verified", c.m, n, nil, most, c.err)
			}
		}
	}
}

// TestI4WhichErrorFirst: of a task, or steps, out of range, too few feeds, and feeds of no truths.
func TestI4WhichErrorFirst(t *testing.T) {
	m := several()
	m.Boxes = []api.BoxInfo{{Type: truth, Cap: 1}, {Type: truth, Cap: 1}}
	for _, feeds := range [][][]int64{nil, {{2}}, {{2}, {2}}, {{2}, {2}, {2}}} {
		wantErr(t, "task", m, 3, feeds, 1, api.ErrRange)
		wantErr(t, "steps", m, 0, feeds, -1, api.ErrRange)
		wantErr(t, "both", m, -1, feeds, api.MaxSolo+1, api.ErrRange)
	}
	wantErr(t, "feeds", m, 0, [][]int64{{2}}, 1, api.ErrMany)
	wantErr(t, "feeds", m, 0, [][]int64{{2}, {2}, {2}}, 1, api.ErrMany)
	wantErr(t, "feeds", m, 0, [][]int64{{2}, {2}}, 1, api.ErrType)
	wantErr(t, "feeds", m, 0, [][]int64{{1}, {2}}, 0, api.ErrType)
}

// TestI4StepByStep: with each number of steps that is allowed the task is just as far.
func TestI4StepByStep(t *testing.T) {
	m := compiled(t, "box a num 1 ; box b bool 1 ; task t { send a recv ( a ) + 1 ; send b not recv ( b ) ; out recv ( a ) ; }")
	// recv, push, add, send; recv, not, send; recv, out; end
	feeds := [][]int64{{7, 8, 9}, {1}}
	one, other := [][]int64{{8}, nil}, [][]int64{{8}, {0}}
	for most, want := range []api.Report{
		{State: api.Ready, Sent: [][]int64{nil, nil}, Took: []int{0, 0}},
		{State: api.Ready, Sent: [][]int64{nil, nil}, Took: []int{1, 0}},
		{State: api.Ready, Sent: [][]int64{nil, nil}, Took: []int{1, 0}},
		{State: api.Ready, Sent: [][]int64{nil, nil}, Took: []int{1, 0}},
		{State: api.Ready, Sent: one, Took: []int{1, 0}},
		{State: api.Ready, Sent: one, Took: []int{1, 1}},
		{State: api.Ready, Sent: one, Took: []int{1, 1}},
		{State: api.Ready, Sent: other, Took: []int{1, 1}},
		{State: api.Ready, Sent: other, Took: []int{2, 1}},
		{State: api.Ready, Out: []int64{8}, Sent: other, Took: []int{2, 1}},
		{State: api.Done, Out: []int64{8}, Sent: other, Took: []int{2, 1}},
		{State: api.Done, Out: []int64{8}, Sent: other, Took: []int{2, 1}},
	} {
		want.Steps = min(most, 10)
		wantReport(t, "step by step", m, 0, feeds, most, want)
	}
	// Where it waits it stands so with steps left or without.
	for most := range 7 {
		wantReport(t, "nothing fed", m, 0, [][]int64{nil, {1}}, most, api.Report{State: api.Waiting, Sent: [][]int64{nil, nil}, Took: []int{0, 0}})
		want := api.Report{State: api.Ready, Sent: [][]int64{nil, nil}, Took: []int{min(most, 1), 0}, Steps: min(most, 4)}
		if most >= 4 {
			want.State, want.Box, want.Sent = api.Waiting, 1, one
		}
		wantReport(t, "only one fed", m, 0, [][]int64{{7, 7}, nil}, most, want)
	}
}

// TestI4TrapsByTheLastStep: a trap takes its step, or doesn't come yet.
func TestI4TrapsByTheLastStep(t *testing.T) {
	m := module(task("push 1, push 0, div, out, end"))
	for most := range 6 {
		want := api.Report{State: api.Ready, Sent: [][]int64{nil}, Took: []int{0}, Steps: min(most, 3)}
		if most >= 3 {
			want.State, want.Trap = api.Trapped, api.TrapZero
		}
		wantReport(t, "a trap", m, 0, [][]int64{{1}}, most, want)
	}
}

// TestI4NeverFull: whatever the box's Cap, all that is sent is noted, and none of it comes back.
func TestI4NeverFull(t *testing.T) {
	m := compiled(t, "box a num 1 ; box b num 20 ; task t { let i = 0 ; while i < 50 { send a i ; send b 0 - i ; i = i + 1 ; } while true { out recv ( a ) ; } } task o { out recv ( b ) ; }")
	r, err := vm.Solo(m, 0, [][]int64{{5, 6}, {7}}, api.MaxSolo)
	var up, low []int64
	for i := range int64(50) {
		up, low = append(up, i), append(low, -i)
	}
	r.Steps = 0
	if want := (api.Report{State: api.Waiting, Out: []int64{5, 6}, Sent: [][]int64{up, low}, Took: []int{2, 0}}); err != api.OK || !same(r, want) {
		t.Errorf("Solo = %+v, %v; want %+v", r, err, want)
	}
	// What another task would do is not done.
	wantReport(t, "the other one", m, 1, [][]int64{{5, 6}, {7, 8}}, api.MaxSolo,
		api.Report{State: api.Done, Out: []int64{7}, Sent: [][]int64{nil, nil}, Took: []int{0, 1}, Steps: 3})
}

// TestI4WaitsAtEachBox: Box tells at which one, of as many as there may be.
func TestI4WaitsAtEachBox(t *testing.T) {
	m := api.Module{Boxes: slices.Repeat(numberBox, api.MaxDefs)}
	text := ""
	for n := range m.Boxes {
		text = row(text, "recv "+string(rune('0'+n/10))+string(rune('0'+n%10))+", out")
	}
	m.Units = []api.Unit{task(text + ", end")}
	for n := range m.Boxes {
		feeds := slices.Repeat([][]int64{{4}}, api.MaxDefs)
		feeds[n] = nil
		took := make([]int, api.MaxDefs)
		for i := range n {
			took[i] = 1
		}
		want := api.Report{State: api.Waiting, Box: n, Out: slices.Repeat([]int64{4}, n), Sent: make([][]int64, api.MaxDefs), Took: took, Steps: 2 * n}
		wantReport(t, "box by box", m, 0, feeds, api.MaxSolo, want)
	}
}
