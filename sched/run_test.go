package sched_test

import (
	"fmt"
	"math"
	"slices"
	"testing"

	"yieldshape/api"
	"yieldshape/sched"
)

// outside are numbers that are too small or too large for whatever is bound by 0 (or 1) and most.
func outside(most int) []int {
	return []int{-1, -2, most + 1, most + 2, 1 << 32, 1<<32 + 1, math.MinInt, math.MinInt + 1, math.MaxInt}
}

// TestJ1WhatVerifySays comes ahead of all, of all three calls, whichever error it is.
func TestJ1WhatVerifySays(t *testing.T) {
	for _, c := range []struct {
		err api.Errno
		m   api.Module
	}{
		{api.ErrNone, api.Module{}},
		{api.ErrNone, module(fn("push 1, ret"))},
		{api.ErrKind, module(api.Unit{})},
		{api.ErrMany, module(task("end"), api.Unit{Kind: api.DTask})},
		{api.ErrMany, api.Module{Boxes: slices.Repeat([]api.BoxInfo{{Type: number, Cap: 1}}, api.MaxDefs+1), Units: []api.Unit{task("end")}}},
		{api.ErrType, api.Module{Boxes: []api.BoxInfo{{Type: 3, Cap: 1}}, Units: []api.Unit{task("end")}}},
		{api.ErrRange, api.Module{Boxes: []api.BoxInfo{{Type: number}}, Units: []api.Unit{task("end")}}},
		{api.ErrRange, api.Module{Boxes: []api.BoxInfo{{Type: number, Cap: api.MaxCap + 1}}, Units: []api.Unit{task("end")}}},
		{api.ErrType, module(task("push 1, not, drop, end"))},
		{api.ErrRange, module(task("jump 5"))},
		{api.ErrStuck, module(task("add, end"))},
		{api.ErrFit, module(task("push 1, send 0, end"), task("push 1, send 0, end"))},
		{api.ErrFit, module(task("recv 0, out, end"), task("recv 0, out, end"))},
		{api.ErrState, module(task("load 0, out, end", number))},
		{api.ErrMuch, module(task(row(repeated("push 1", 301), "end")))},
	} {
		for _, l := range [][]api.Pick{nil, picks(0, 1), picks(-1, 0), make([]api.Pick, api.MaxPicks+1)} {
			wantRunErr(t, "verified", c.m, l, c.err)
			for _, quantum := range []int{0, 1, api.MaxQuantum + 1} {
				wantSettleErr(t, "verified", c.m, l, quantum, c.err)
			}
		}
	}
}

// TestJ1HowManyPicks: MaxPicks, be they refused or not.
func TestJ1HowManyPicks(t *testing.T) {
	m := module(task("jump 0"))
	for _, pick := range []api.Pick{{Quantum: 1}, {Task: 7, Quantum: 1}, {}} {
		for _, n := range []int{0, 1, 2, api.MaxPicks - 1, api.MaxPicks} {
			if _, did, err := sched.Run(m, slices.Repeat([]api.Pick{pick}, n)); err != api.OK || len(did) != n {
				t.Errorf("%d picks: %d answers, %v", n, len(did), err)
			}
		}
		for _, n := range []int{api.MaxPicks + 1, api.MaxPicks + 2, 5000} {
			wantRunErr(t, "too many", m, slices.Repeat([]api.Pick{pick}, n), api.ErrMany)
		}
	}
}

// TestJ1Beginning: without picks nothing is done: tasks stand as their first instructions have it, whatever stands between them in the module.
func TestJ1Beginning(t *testing.T) {
	m := module(fn("push 1, ret"), task("push 1, out, end"), generator("end"), task("recv 0, out, end"), task("end"), task("recv 1, out, end"), fn("push 1, ret"))
	want := api.World{Tasks: quiet(api.Ready, 0, api.Waiting, 0, api.Ready, 0, api.Waiting, 1), Boxes: [][]int64{nil, nil}}
	wantRun(t, "beginning", m, nil, want, nil)
	wantRun(t, "beginning", m, []api.Pick{}, want, nil)
	wantRun(t, "no box", api.Module{Units: []api.Unit{task("end")}}, nil, api.World{Tasks: quiet(api.Ready, 0)}, nil)
}

// TestJ1WhichTask: by its number among tasks, from 0 on.
func TestJ1WhichTask(t *testing.T) {
	m := module(fn("push 1, ret"), task("push 10, out, end"), generator("end"), task("push 11, out, end"), task("push 12, out, end"), fn("push 1, ret"))
	for n := range 3 {
		want := api.World{Tasks: quiet(api.Ready, 0, api.Ready, 0, api.Ready, 0), Boxes: [][]int64{nil, nil}, Steps: 2}
		want.Tasks[n].Out = []int64{int64(10 + n)}
		wantRun(t, "three tasks", m, picks(n, 2), want, took(2))
	}
	for _, n := range outside(2) {
		wantDid(t, "three tasks", m, picks(n, 2), refused(api.ErrRange))
	}
}

// TestJ1Quantum is from 1 to MaxQuantum; as many steps are taken.
func TestJ1Quantum(t *testing.T) {
	m := module(task("jump 0"))
	for _, n := range []int{1, 2, 3, 100, api.MaxQuantum - 1, api.MaxQuantum} {
		wantDid(t, "for ever", m, picks(0, n), took(n)...)
	}
	for _, n := range append(outside(api.MaxQuantum), 0) {
		wantDid(t, "for ever", m, picks(0, n), refused(api.ErrMany))
	}
}

// TestJ1NotReady: whoever is done, trapped, or waits.
func TestJ1NotReady(t *testing.T) {
	again := picks(0, 100, 0, 1, 0, 100)
	no := refused(api.ErrState)
	for _, c := range []struct {
		text  string
		steps int
		end   api.End
	}{
		{"end", 1, api.End{State: api.Done}},
		{"push 1, push 0, div, out, end", 3, api.End{State: api.Trapped, Trap: api.TrapZero}},
		{"push 1, drop, recv 1, out, end", 2, api.End{State: api.Waiting, Box: 1}},
		{"push 5, send 1, jump 0", 7, api.End{State: api.Sending, Box: 1}},
		{"push 5, send 0, jump 0", 4, api.End{State: api.Sending}},
	} {
		m := module(task(c.text))
		w, _, _ := sched.Run(m, again)
		want := api.World{Tasks: []api.End{c.end}, Boxes: w.Boxes, Steps: c.steps}
		wantRun(t, c.text, m, again, want, []api.Did{{Steps: c.steps}, no, no})
	}
	wantDid(t, "from the beginning", module(task("recv 0, out, end")), again, no, no, no)
}

// TestJ1AllSteps: MaxRun of all tasks together.
func TestJ1AllSteps(t *testing.T) {
	m := module(task("jump 0"), task("jump 0"), task("end"))
	no := refused(api.ErrSteps)
	wantDid(t, "just as many", m, picks(0, 10000, 1, 10000), took(10000, 10000)...)
	wantDid(t, "one more", m, picks(0, 10000, 1, 10000, 0, 1, 1, 10000, 2, 1), append(took(10000, 10000), no, no, no)...)
	wantDid(t, "the rest", m, picks(0, 10000, 1, 9997, 0, 10000, 1, 1), append(took(10000, 9997, 3), no)...)
	wantDid(t, "the last one", m, picks(0, 10000, 1, 9999, 2, 9, 2, 9, 0, 1), append(took(10000, 9999, 1), refused(api.ErrState), no)...)
	// What is refused takes no steps.
	wantDid(t, "refused ones", m, picks(0, 10000, 3, 9, 0, 10001, 2, 9, 2, 9, 1, 9999, 1, 1),
		api.Did{Steps: 10000}, refused(api.ErrRange), refused(api.ErrMany), api.Did{Steps: 1}, refused(api.ErrState), api.Did{Steps: 9999}, no)
	w, _, _ := sched.Run(m, picks(0, 10000, 1, 10000, 2, 1))
	if want := (api.World{Tasks: quiet(api.Ready, 0, api.Ready, 0, api.Ready, 0), Boxes: [][]int64{nil, nil}, Steps: api.MaxRun}); !same(w, want) {
		t.Errorf("all steps taken: %+v; want %+v", w, want)
	}
}

// TestJ1WhichErrorFirst: no task, no quantum, not Ready, no steps left.
func TestJ1WhichErrorFirst(t *testing.T) {
	m := module(task("jump 0"), task("recv 0, out, end"))
	wantDid(t, "no task", m, picks(2, 0, -1, 10001), refused(api.ErrRange), refused(api.ErrRange))
	wantDid(t, "no quantum", m, picks(1, 0, 1, 10001), refused(api.ErrMany), refused(api.ErrMany))
	spent := picks(0, 10000, 0, 10000)
	for _, c := range []struct {
		task, quantum int
		err           api.Errno
	}{
		{2, 0, api.ErrRange}, {2, 1, api.ErrRange}, {0, 0, api.ErrMany}, {1, 0, api.ErrMany}, {1, 1, api.ErrState}, {0, 1, api.ErrSteps},
	} {
		wantDid(t, "no steps left", m, append(spent, api.Pick{Task: c.task, Quantum: c.quantum}), append(took(10000, 10000), refused(c.err))...)
	}
}

// TestJ1RefusedDoesNothing: the world is the same without the picks that are refused.
func TestJ1RefusedDoesNothing(t *testing.T) {
	m := module(task("push 1, send 0, jump 0"), task("recv 0, out, jump 0"))
	l := picks(0, 9, 0, 5, 1, 1, 2, 1, 1, 0, 1, 9, 1, 9, -1, 5, 0, 10001, 0, 2)
	w, did, _ := sched.Run(m, l)
	var kept []api.Pick
	var done []api.Did
	for i, d := range did {
		if d.Err == api.OK {
			kept, done = append(kept, l[i]), append(done, d)
		}
	}
	if len(kept) != 4 {
		t.Errorf("%d of the picks are not refused: %v", len(kept), did)
	}
	wantRun(t, "without them", m, kept, w, done)
}

// TestJ1StepByStep: tasks, box and steps as each pick leaves them; 8 is told of two places, 9 must wait.
func TestJ1StepByStep(t *testing.T) {
	m := module(task("push 7, send 1, push 8, send 1, push 9, send 1, end"), task("recv 1, out, jump 0"))
	const ready, sending, waiting, done = api.Ready, api.Sending, api.Waiting, api.Done
	var l []api.Pick
	var did []api.Did
	for _, c := range []struct {
		pick  []api.Pick
		did   api.Did
		one   int
		other int
		box   []int64
		out   []int64
	}{
		{picks(1, 5), refused(api.ErrState), ready, waiting, nil, nil},
		{picks(0, 1), took(1)[0], ready, waiting, nil, nil},
		{picks(1, 1), refused(api.ErrState), ready, waiting, nil, nil},
		{picks(0, 1), took(1)[0], ready, ready, []int64{7}, nil},
		{picks(0, 9), took(3)[0], sending, ready, []int64{7, 8}, nil},
		{picks(0, 9), refused(api.ErrState), sending, ready, []int64{7, 8}, nil},
		{picks(1, 1), took(1)[0], ready, ready, []int64{8}, nil},
		{picks(0, 1), took(1)[0], ready, ready, []int64{8, 9}, nil},
		{picks(1, 1), took(1)[0], ready, ready, []int64{8, 9}, []int64{7}},
		{picks(1, 3), took(3)[0], ready, ready, []int64{9}, []int64{7, 8}},
		{picks(0, 2), took(1)[0], done, ready, []int64{9}, []int64{7, 8}},
		{picks(1, 10000), took(4)[0], done, waiting, nil, []int64{7, 8, 9}},
		{picks(1, 10000), refused(api.ErrState), done, waiting, nil, []int64{7, 8, 9}},
	} {
		l, did = append(l, c.pick...), append(did, c.did)
		want := api.World{Tasks: quiet(c.one, 0, c.other, 0), Boxes: [][]int64{nil, c.box}}
		want.Tasks[1].Out = c.out
		if c.one == sending {
			want.Tasks[0].Box = 1
		}
		if c.other == waiting {
			want.Tasks[1].Box = 1
		}
		for _, d := range did {
			want.Steps += d.Steps
		}
		wantRun(t, "step by step", m, l, want, did)
	}
}

// TestJ1Full: a box is full with as many words as it has places, and not any more when one is taken.
func TestJ1Full(t *testing.T) {
	for places := 1; places <= api.MaxCap; places++ {
		m := compiled(t, fmt.Sprintf("box odd num 2 ; box b num %d ; task a { let i = 0 ; while true { send b i ; i = i + 1 ; } } task c { while true { out recv ( b ) ; } }", places))
		var inside, out []int64
		for i := range places {
			inside = append(inside, int64(i))
		}
		l := picks(0, 10000)
		for taken := range 2*places + 3 {
			w, _, err := sched.Run(m, l)
			want := api.World{Tasks: quiet(api.Sending, 1, api.Ready, 0), Boxes: [][]int64{nil, inside}, Steps: w.Steps}
			want.Tasks[1].Out = out
			if err != api.OK || !same(w, want) {
				t.Fatalf("%d places, %d words taken: %+v, %v; want %+v", places, taken, w, err, want)
			}
			out = append(out, inside[0])
			inside = append(slices.Clone(inside[1:]), int64(taken+places))
			l = append(l, picks(1, 4+min(taken, 1), 0, 10000)...) // truth, else, recv, out; later on a jump ahead of these
		}
	}
}

// TestJ1EachBox: Box tells at which one a task waits, to send and to receive, of as many as there may be.
func TestJ1EachBox(t *testing.T) {
	m := api.Module{Boxes: slices.Repeat([]api.BoxInfo{{Type: number, Cap: 1}}, api.MaxDefs)}
	var send, recv string
	for n := range m.Boxes {
		send = row(send, fmt.Sprintf("push 1, send %d, push 2, send %d", n, n))
		recv = row(recv, fmt.Sprintf("recv %d, out, recv %d, out", n, n))
	}
	m.Units = []api.Unit{task(row(send, "end")), task(row(recv, "end"))}
	var l []api.Pick
	var out []int64
	for n := range m.Boxes {
		w, _, _ := sched.Run(m, l)
		want := api.World{Tasks: quiet(api.Ready, 0, api.Waiting, n), Boxes: make([][]int64, api.MaxDefs), Steps: 8 * n}
		want.Tasks[1].Out = out
		if !same(w, want) {
			t.Fatalf("box %d: %+v; want %+v", n, w, want)
		}
		w, _, _ = sched.Run(m, append(slices.Clone(l), picks(0, 9)...))
		want = api.World{Tasks: quiet(api.Sending, n, api.Ready, 0), Boxes: make([][]int64, api.MaxDefs), Steps: 8*n + 3}
		want.Tasks[1].Out, want.Boxes[n] = out, []int64{1}
		if !same(w, want) {
			t.Fatalf("box %d: %+v; want %+v", n, w, want)
		}
		l = append(l, picks(0, 3, 1, 2, 0, 1, 1, 2)...)
		out = append(out, 1, 2)
	}
	wantDid(t, "the end", m, append(l, picks(0, 1, 1, 1)...), append(slices.Repeat(took(3, 2, 1, 2), api.MaxDefs), took(1, 1)...)...)
}

// TestJ1OwnBox: a task may send to itself, and waits for itself.
func TestJ1OwnBox(t *testing.T) {
	m := module(task("push 3, send 1, push 4, send 1, recv 1, out, recv 1, out, recv 1, out, end"))
	wantRun(t, "empty in the end", m, picks(0, 100), api.World{Tasks: []api.End{{State: api.Waiting, Box: 1, Out: []int64{3, 4}}}, Boxes: [][]int64{nil, nil}, Steps: 8}, took(8))
	m = module(task("push 3, send 0, push 4, send 0, recv 0, out, end"))
	wantRun(t, "full", m, picks(0, 100), api.World{Tasks: quiet(api.Sending, 0), Boxes: [][]int64{{3}, nil}, Steps: 3}, took(3))
}

// TestJ1EachTaskForItself: neither locals, nor generators, nor traps of a task are another one's.
func TestJ1EachTaskForItself(t *testing.T) {
	many := row(repeated("start 3, drop", api.MaxCos), "push 5, store 0, load 0, out, end")
	tooMany := row(repeated("start 3, drop", api.MaxCos+1), "end")
	m := module(task(many, number), task(tooMany), task(many, number), generator("end"))
	var l []api.Pick
	for range 100 {
		l = append(l, picks(0, 1, 1, 1, 2, 1)...)
	}
	w, _, err := sched.Run(m, l)
	want := api.World{
		Tasks: []api.End{{State: api.Done, Out: []int64{5}}, {State: api.Trapped, Trap: api.TrapMany}, {State: api.Done, Out: []int64{5}}},
		Boxes: [][]int64{nil, nil},
		Steps: 2*(2*api.MaxCos+5) + 2*api.MaxCos + 1,
	}
	if err != api.OK || !same(w, want) {
		t.Errorf("by turns: %+v, %v; want %+v", w, err, want)
	}
}

// TestJ1Words come out of a box as they went in, truths too.
func TestJ1Words(t *testing.T) {
	m := compiled(t, "box b bool 3 ; box n num 3 ; task a { send b true ; send b 1 > 2 ; send b true ; send n 0 - 123456789012345 ; send n 0 ; } task c { out recv ( b ) ; }")
	w, _, err := sched.Run(m, picks(0, 100, 1, 100))
	want := api.World{Tasks: []api.End{{State: api.Done}, {State: api.Done, Out: []int64{1}}}, Boxes: [][]int64{{0, 1}, {-123456789012345, 0}}, Steps: 18}
	if err != api.OK || !same(w, want) {
		t.Errorf("Run = %+v, %v; want %+v", w, err, want)
	}
}
