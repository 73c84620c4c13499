package graph_test

import (
	"slices"
	"testing"

	"yieldshape/api"
	"yieldshape/graph"
	"yieldshape/sched"
)

// TestO2Sending: who waits to send waits for the one that receives.
func TestO2Sending(t *testing.T) {
	wantWaits(t, "one word is taken", module(task("push 1, send 1, jump 0"), task("recv 1, out, end")), 1, -1)
	wantWaits(t, "the other way round", module(task("recv 1, out, end"), task("push 1, send 1, jump 0")), -1, 0)
	wantWaits(t, "nobody receives", module(task("push 1, send 1, jump 0"), task("recv 0, out, end"), task("push 1, send 0, end")), -1, -1, -1)
}

// TestO2Waiting: who waits to receive waits for the one that sends.
func TestO2Waiting(t *testing.T) {
	wantWaits(t, "one word is sent", module(task("recv 2, out, jump 0"), task("push 1, send 2, end")), 1, -1)
	wantWaits(t, "the other way round", module(task("push 1, send 2, end"), task("recv 2, out, jump 0")), -1, 0)
	wantWaits(t, "nobody sends", module(task("recv 2, out, end"), task("push 1, send 1, end"), task("recv 1, out, end")), -1, -1, -1)
}

// TestO2NotByTheOther: who does the same with the box is none for whom it waits, nor who speaks through another one.
func TestO2NotByTheOther(t *testing.T) {
	wantWaits(t, "it sends alone", module(task("push 1, send 0, jump 0")), -1)
	wantWaits(t, "it receives alone", module(task("recv 0, out, jump 0")), -1)
	wantWaits(t, "other boxes", module(task("recv 0, out, end"), task("push 1, send 1, jump 0"), task("recv 2, out, end"), task("end, push 1, send 2, recv 1, end")), -1, 3, 3, -1)
}

// TestO2Itself: a task may wait for itself, to send or to receive.
func TestO2Itself(t *testing.T) {
	wantWaits(t, "to receive", module(task("recv 0, send 0, end")), 0)
	wantWaits(t, "to send", module(task("push 1, send 0, push 1, send 0, recv 0, out, end")), 0)
	wantWaits(t, "the second one", module(task("end"), task("recv 0, send 0, end")), -1, 1)
}

// TestO2Circles: each waits for the next one.
func TestO2Circles(t *testing.T) {
	wantWaits(t, "of two", module(task("recv 0, send 1, end"), task("recv 1, send 0, end")), 1, 0)
	wantWaits(t, "of three", module(task("recv 0, send 1, end"), task("recv 1, send 2, end"), task("recv 2, send 0, end")), 2, 0, 1)
	wantWaits(t, "to send and to receive", module(task("push 1, send 0, jump 0, push 1, send 2, end"), task("recv 1, out, recv 0, out, end"), task("recv 2, send 1, end")), 1, 2, 0)
}

// TestO2NeverReached: whether an instruction is ever come to does not matter.
func TestO2NeverReached(t *testing.T) {
	wantWaits(t, "behind an end", module(task("push 1, send 0, jump 0"), task("end, recv 0, drop, end")), 1, -1)
	wantWaits(t, "behind an end", module(task("recv 0, out, jump 0"), task("end, push 1, send 0, end")), 1, -1)
	wantWaits(t, "behind a trap", module(task("recv 0, out, jump 0"), task("push 1, push 0, div, send 0, end")), 1, -1)
	wantWaits(t, "a call behind an end", module(fn("recv 0, ret"), task("push 1, send 0, jump 0"), task("end, call 0, drop, end")), 1, -1)
	wantWaits(t, "in a function that has come back", module(fn("push 1, ret, send 0, ret"), task("call 0, out, end"), task("recv 0, out, end")), -1, 0)
}

// TestO2ByUnits: a task comes to what it calls or starts, and to what that does.
func TestO2ByUnits(t *testing.T) {
	waits := task("push 1, send 0, jump 0")
	wantWaits(t, "a function", module(waits, fn("recv 0, ret"), task("call 1, out, end")), 1, -1)
	wantWaits(t, "a generator", module(waits, generator("recv 0, drop, end"), task("start 1, drop, end")), 1, -1)
	wantWaits(t, "further off", module(waits, fn("call 2, ret"), fn("start 3, drop, push 1, ret"), generator("call 4, drop, end"), fn("push 1, ret, recv 0, ret"), task("call 1, out, end")), 1, -1)
	wantWaits(t, "nobody calls it", module(waits, fn("recv 0, ret"), fn("call 1, ret"), task("end")), -1, -1)
	wantWaits(t, "in a circle", module(waits, fn("push 1, ret, call 2, ret"), fn("recv 0, drop, call 1, ret"), task("call 2, out, end")), 1, -1)
	wantWaits(t, "itself", module(waits, fn("push 1, ret, call 1, recv 0, ret"), task("call 1, out, end")), 1, -1)
}

// TestO2WithinUnits: it is the task that waits, wherever it does.
func TestO2WithinUnits(t *testing.T) {
	sends := task("push 1, send 0, end")
	wantWaits(t, "in a function", module(fn("recv 0, recv 0, add, ret"), task("call 0, out, end"), sends), 1, -1)
	wantWaits(t, "in a generator", module(generator("recv 0, recv 0, add, yield, drop, end"), task("start 0, push 1, resume, out, end"), sends), 1, -1)
	wantWaits(t, "by a function of its own", module(fn("recv 0, send 0, push 1, ret"), task("call 0, out, end")), 0)
}

// TestO2Shared: two tasks may call the same function, if it has no box.
func TestO2Shared(t *testing.T) {
	m := module(fn("push 1, ret"), task("call 0, send 0, jump 0"), generator("call 0, drop, end"), task("start 2, drop, recv 1, out, end"), fn("recv 0, call 0, drop, send 1, push 1, ret"), task("end, call 4, out, end"))
	wantWaits(t, "shared", m, 2, 2, -1)
}

// TestO2NumbersAmongTasks: not among units.
func TestO2NumbersAmongTasks(t *testing.T) {
	f, g := fn("push 1, ret"), generator("end")
	wantWaits(t, "others between", module(f, g, task("recv 0, out, end"), f, task("recv 1, out, end"), g, f, task("end, push 1, send 0, end"), f, task("end, push 1, send 1, end"), g), 2, 3, -1, -1)
}

// TestO2OthersWaitForNobody: who is done or trapped, though the first box has somebody at both ends.
func TestO2OthersWaitForNobody(t *testing.T) {
	speaks := task("end, recv 0, send 0, end")
	wantWaits(t, "done", module(speaks, task("end")), -1, -1)
	wantWaits(t, "trapped", module(speaks, task("push 1, push 0, div, out, end"), task("push 1, push 0, mod, out, end")), -1, -1, -1)
	// The trap's number is that of Sending, too.
	again := task("start 1, store 0, load 0, push 1, resume, drop, load 0, push 1, resume, out, end")
	again.Locals = []int{api.Handle + 1}
	m := module(speaks, generator("end"), again)
	if w, _ := sched.Settle(m, nil, 1); len(w.Tasks) != 2 || w.Tasks[1].State != api.Trapped || w.Tasks[1].Trap != api.Sending {
		t.Fatalf("%+v", w)
	}
	wantWaits(t, "what is at its end is resumed", m, -1, -1)
}

// TestO2InThatWorld: how it stands in the end, not on the way.
func TestO2InThatWorld(t *testing.T) {
	wantWaits(t, "all is taken", module(task("push 1, send 0, push 2, send 0, push 3, send 0, end"), task("recv 0, out, recv 0, out, recv 0, out, end")), -1, -1)
	wantWaits(t, "one is waited for by two", module(task("recv 0, out, recv 0, out, end"), task("recv 1, out, recv 1, out, end"), task("push 1, send 0, push 1, send 1, recv 2, out, end")), 2, 2, -1)
}

// TestO2Errors: Settle's, in its order.
func TestO2Errors(t *testing.T) {
	rests, many := module(task("end")), slices.Repeat([]api.Pick{{Task: 0, Quantum: 1}}, api.MaxPicks+1)
	wantErr(t, "nothing", api.Module{}, nil, 1, api.ErrNone)
	wantErr(t, "nothing", api.Module{}, many, 0, api.ErrNone)
	wantErr(t, "two send", module(task("push 1, send 0, end"), task("push 1, send 0, end")), nil, 1, api.ErrFit)
	wantErr(t, "two receive", module(task("recv 0, out, end"), task("end, recv 0, out, end")), nil, 1, api.ErrFit)
	wantErr(t, "no such unit", module(task("call 7, out, end")), nil, 1, api.ErrRange)
	wantErr(t, "no such unit", module(task("end, start -1, end")), nil, 1, api.ErrRange)
	wantErr(t, "no such box", module(task("end, send 3, end")), nil, 1, api.ErrRange)
	wantErr(t, "no such kind", module(api.Unit{Kind: 5, Code: code("end")}), nil, 1, api.ErrKind)
	wantErr(t, "picks", rests, many, 1, api.ErrMany)
	wantErr(t, "picks", rests, many, 0, api.ErrMany)
	for _, quantum := range []int{0, -1, api.MaxQuantum + 1, -1 << 63, 1<<63 - 1} {
		wantErr(t, "quantum", rests, nil, quantum, api.ErrRange)
	}
	wantErr(t, "for ever", module(task("jump 0"), task("recv 0, send 0, end")), nil, 5, api.ErrSteps)
}

// TestO2Refused: a pick that is refused does nothing, and is no error.
func TestO2Refused(t *testing.T) {
	m := module(task("push 1, send 0, jump 0"), task("recv 0, out, end"))
	for _, p := range []api.Pick{{}, {Task: -1, Quantum: 1}, {Task: 2, Quantum: 1}, {Task: 1, Quantum: api.MaxQuantum + 1}, {Task: 1, Quantum: -1 << 63}} {
		got, err := graph.Waits(m, slices.Repeat([]api.Pick{p}, api.MaxPicks), 7)
		if err != api.OK || !slices.Equal(got, []int{1, -1}) {
			t.Errorf("%v: %v, %v", p, got, err)
		}
	}
}

// TestO2AsGreatAsMayBe: as many tasks, and as much code, as there may be.
func TestO2AsGreatAsMayBe(t *testing.T) {
	long := slices.Concat(code("recv 0, out, end"), slices.Repeat(code("call 0"), api.MaxCode-3))
	var units []api.Unit
	units = append(units, fn("push 1, ret"))
	for range api.MaxUnits - 1 {
		units = append(units, api.Unit{Kind: api.DTask, Code: slices.Clone(long)})
	}
	for n := range units[1:] {
		units[1+n].Code[0].A = n
		units[1+n].Code[3] = api.Instr{Op: api.OpSend, A: (n + 1) % (api.MaxUnits - 1)}
	}
	m := api.Module{Boxes: slices.Repeat([]api.BoxInfo{{Type: number, Cap: 1}}, api.MaxDefs), Units: units}
	want := []int{api.MaxUnits - 2}
	for n := range api.MaxUnits - 2 {
		want = append(want, n)
	}
	wantWaits(t, "all in a circle", m, want...)
}
