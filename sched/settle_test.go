package sched_test

import (
	"slices"
	"testing"

	"yieldshape/api"
	"yieldshape/sched"
)

// pipe: one sends numbers, the next one doubles them, the last one puts them out.
const pipe = `
box a num 1 ;
box b num 2 ;
task last { while true { out recv ( b ) ; } }
task next { while true { send b recv ( a ) * 2 ; } }
task first { let i = 1 ; while i < 6 { send a i ; i = i + 1 ; } }`

// atRest is the world where the pipe comes to rest.
func atRest() api.World {
	return api.World{
		Tasks: []api.End{{State: api.Waiting, Box: 1, Out: []int64{2, 4, 6, 8, 10}}, {State: api.Waiting}, {State: api.Done}},
		Boxes: [][]int64{nil, nil},
		// while true: two ahead of each round; rounds of recv, out, jump, and of recv, push, mul, send, jump; let, five rounds of eleven, the last question, and the end.
		Steps: 2 + 5*(3+2) + 2 + 5*(5+2) + 2 + 5*11 + 4 + 1,
	}
}

// TestJ2Settles, with each quantum, and whatever was picked ahead of that.
func TestJ2Settles(t *testing.T) {
	m := compiled(t, pipe)
	for _, quantum := range []int{1, 2, 3, 7, 100, api.MaxQuantum - 1, api.MaxQuantum} {
		for _, l := range [][]api.Pick{nil, {}, picks(2, 5), picks(0, 10000, 1, 10000, 2, 10000), picks(2, 8, 1, 3, 2, 9, 0, 1), picks(9, 1, 0, 0, -1, 5)} {
			wantSettle(t, "pipe", m, l, quantum, atRest())
		}
	}
}

// TestJ2Quantum is from 1 to MaxQuantum: else ErrRange, though a pick's would be ErrMany.
func TestJ2Quantum(t *testing.T) {
	m := compiled(t, pipe)
	for _, n := range append(outside(api.MaxQuantum), 0) {
		wantSettleErr(t, "pipe", m, nil, n, api.ErrRange)
		wantSettleErr(t, "pipe", m, picks(0, 1, 9, 9), n, api.ErrRange)
		wantSettleErr(t, "for ever", module(task("jump 0")), picks(0, 10000, 0, 10000), n, api.ErrRange)
		wantSettleErr(t, "at rest", module(task("recv 0, out, end")), nil, n, api.ErrRange)
	}
}

// TestJ2HowManyPicks: that there are too many comes ahead of a wrong quantum.
func TestJ2HowManyPicks(t *testing.T) {
	m := compiled(t, pipe)
	l := slices.Repeat(picks(2, 1), api.MaxPicks)
	wantSettle(t, "just as many", m, l, 5, atRest())
	wantSettleErr(t, "just as many", m, l, 0, api.ErrRange)
	for _, quantum := range []int{0, 1, api.MaxQuantum + 1} {
		wantSettleErr(t, "too many", m, append(l, picks(2, 1)...), quantum, api.ErrMany)
	}
}

// TestJ2AtRest: where nobody is Ready nothing is picked.
func TestJ2AtRest(t *testing.T) {
	m := module(task("recv 0, out, end"), task("recv 1, out, end"))
	want := api.World{Tasks: quiet(api.Waiting, 0, api.Waiting, 1), Boxes: [][]int64{nil, nil}}
	wantSettle(t, "both wait", m, nil, 1, want)
	wantSettle(t, "both wait", m, picks(0, 1, 1, 1), 1, want)
	m = module(task("push 1, push 0, mod, out, end"), task("push 7, send 0, jump 0"), task("end"))
	want = api.World{Tasks: quiet(api.Trapped, 0, api.Sending, 0, api.Done, 0), Boxes: [][]int64{{7}, nil}, Steps: 8}
	want.Tasks[0].Trap = api.TrapZero
	wantSettle(t, "three ends", m, nil, 1, want)
	wantSettle(t, "three ends", m, picks(0, 100, 1, 100, 2, 100), 1, want)
}

// counted is a task that takes just so many steps.
func counted(t *testing.T, steps int) api.Unit {
	t.Helper()
	const ahead, round, behind = 2, 9, 5
	n := int64((steps - ahead - behind) / round)
	text := "push 0, store 0, load 0, push 0, gt, else 11, load 0, push 1, sub, store 0, jump 2, end"
	u := task(text, number)
	u.Code[0].N = n
	for range (steps - ahead - behind) % round {
		u.Code = slices.Insert(u.Code, len(u.Code)-1, api.Instr{Op: api.OpJump, A: len(u.Code)})
	}
	if w, _, _ := sched.Run(module(u), picks(0, 10000, 0, 10000)); w.Steps != min(steps, api.MaxRun) {
		t.Fatalf("%d steps; want %d", w.Steps, steps)
	}
	return u
}

// TestJ2AllSteps: MaxRun may be taken, but nobody may be Ready then.
func TestJ2AllSteps(t *testing.T) {
	just := api.World{Tasks: quiet(api.Done, 0), Boxes: [][]int64{nil, nil}, Steps: api.MaxRun}
	for _, quantum := range []int{1, 7, 10000} {
		for _, l := range [][]api.Pick{nil, picks(0, 3), picks(0, 10000, 0, 9999), picks(0, 10000, 0, 10000), picks(0, 10000, 0, 10000, 0, 1)} {
			wantSettle(t, "just as many", module(counted(t, api.MaxRun)), l, quantum, just)
			wantSettleErr(t, "one more", module(counted(t, api.MaxRun+1)), l, quantum, api.ErrSteps)
			wantSettleErr(t, "for ever", module(task("jump 0")), l, quantum, api.ErrSteps)
		}
		// Of all tasks together; whoever waits then takes none.
		wantSettle(t, "two", module(counted(t, 12000), counted(t, 8000), task("recv 0, out, end")), nil, quantum,
			api.World{Tasks: quiet(api.Done, 0, api.Done, 0, api.Waiting, 0), Boxes: [][]int64{nil, nil}, Steps: api.MaxRun})
		wantSettleErr(t, "two", module(counted(t, 12000), counted(t, 8001)), nil, quantum, api.ErrSteps)
		wantSettleErr(t, "two, and another one", module(counted(t, 12000), task("end"), counted(t, 8000)), nil, quantum, api.ErrSteps)
	}
}
