package vm_test

import (
	"fmt"
	"testing"

	"yieldshape/api"
)

// brimful is a module whose first task comes to what stands behind with MaxWords words on its stack: 200 locals, the first of which has 1, and as many words above, which are dropped in the end.
func brimful(behind string, units ...api.Unit) api.Module {
	text := row("push 1, store 0", repeated("push 7", 200), behind, repeated("drop", 200), "end")
	return module(append([]api.Unit{task(text, numbers(200)...)}, units...)...)
}

// fillSteps is how many steps it takes to come there.
const fillSteps = 202

// TestI1LocalsLieOnTheStack: with so many locals there is so much less room above.
func TestI1LocalsLieOnTheStack(t *testing.T) {
	for locals := range api.MaxLocals + 1 {
		m := module(task(row(repeated("push 1", api.MaxStack), repeated("drop", api.MaxStack), "end"), numbers(locals)...))
		if locals+api.MaxStack <= api.MaxWords {
			wantDone(t, fmt.Sprint(locals, " locals"), m)
		} else {
			wantTrap(t, fmt.Sprint(locals, " locals"), m, api.TrapStack, api.MaxWords-locals+1)
		}
	}
}

// TestI2TooManyWords: by whatever puts one on top of MaxWords; what takes ahead of that finds room.
func TestI2TooManyWords(t *testing.T) {
	wantDone(t, "just as many", brimful("drop, push 1"))
	for _, last := range []string{"push 1", "truth 1", "load 0"} {
		wantTrap(t, last, brimful(last+", drop"), api.TrapStack, fillSteps+1)
		wantDone(t, "room for "+last, brimful("drop, "+last+", drop, push 1"))
	}
	for _, last := range []string{"neg", "drop, truth 1, not, drop, push 1", "out, push 1", "store 0, load 0", "add, push 1", "lt, drop, push 1, push 1"} {
		if r := solo(t, last, brimful(last)); r.State != api.Done {
			t.Errorf("%s: %+v; want it done", last, r)
		}
	}
}

// TestI2ReceivedOnTop: the word is taken from the box, though there is no room for it.
func TestI2ReceivedOnTop(t *testing.T) {
	m := brimful("recv 0, drop")
	wantReport(t, "no room", m, 0, [][]int64{{5, 6}}, api.MaxSolo,
		api.Report{State: api.Trapped, Trap: api.TrapStack, Sent: [][]int64{nil}, Took: []int{1}, Steps: fillSteps + 1})
	wantReport(t, "nothing comes", m, 0, [][]int64{nil}, api.MaxSolo,
		api.Report{State: api.Waiting, Sent: [][]int64{nil}, Took: []int{0}, Steps: fillSteps})
	wantReport(t, "room", brimful("drop, recv 0, out, push 1"), 0, [][]int64{{5, 6}}, api.MaxSolo,
		api.Report{State: api.Done, Out: []int64{5}, Sent: [][]int64{nil}, Took: []int{1}, Steps: fillSteps + 4 + 201})
}

// TestI3StartedOnTop: there must be room for what was started; that too many were is told ahead of that.
func TestI3StartedOnTop(t *testing.T) {
	wantTrap(t, "no room", brimful("start 1, drop", generator(0, 0, "end")), api.TrapStack, fillSteps+1)
	wantDone(t, "room", brimful("drop, start 1, drop, push 1", generator(0, 0, "end")))
	wantDone(t, "a parameter makes room", brimful("start 1, drop, push 1", generator(1, 1, "end")))
	many := func(n int) string { return row("drop", repeated("start 1, drop", n), "push 1, start 1, drop") }
	wantTrap(t, "too many, too", brimful(many(api.MaxCos), generator(0, 0, "end")), api.TrapMany, fillSteps+1+2*api.MaxCos+2)
	wantTrap(t, "not too many", brimful(many(api.MaxCos-1), generator(0, 0, "end")), api.TrapStack, fillSteps+1+2*api.MaxCos)
}

// TestI3RoomForLocals: parameters that lie on top become locals; the others need room.
func TestI3RoomForLocals(t *testing.T) {
	for params := range api.MaxArgs + 1 {
		what := fmt.Sprint(params, " parameters")
		call := row("call 1", repeated("push 1", params), "drop") // as many words as there were
		if r := solo(t, what, brimful(call, fn(params, params, "jump 0"))); r.State != api.Ready {
			t.Errorf("%s, no other local: %+v; want it going", what, r)
		}
		for more := 1; more <= 3; more++ {
			other := fn(params, params+more, "jump 0")
			for room := range more + 1 {
				text := row(repeated("drop", room), call, repeated("push 1", room))
				if room < more {
					wantTrap(t, what, brimful(text, other), api.TrapStack, fillSteps+room+1)
				} else if r := solo(t, what, brimful(text, other)); r.State != api.Ready {
					t.Errorf("%s, %d other locals, and room: %+v; want it going", what, more, r)
				}
			}
		}
	}
	wantTrap(t, "within the function", brimful("call 1, drop", fn(0, 0, "push 1, ret")), api.TrapStack, fillSteps+2)
	wantDone(t, "within the function, room", brimful("drop, call 1", fn(0, 0, "push 1, ret")))
	wantDone(t, "what a function had is gone", brimful(row(repeated("drop", 100), repeated("call 1, drop", 10), repeated("push 1", 100)), fn(0, 90, "push 5, push 4, add, ret")))
}

// TestI1EachThreadHasItsOwnStack: what the task's own thread holds takes no room from generators.
func TestI1EachThreadHasItsOwnStack(t *testing.T) {
	inner := func(n int) api.Unit {
		return generator(1, 200, row(repeated("push 3", n-1), "load 0, yield, drop", repeated("drop", n-1), "end"))
	}
	behind := "start 1, push 0, resume"
	wantDone(t, "both full", brimful(row("drop, drop, push 9", behind, "out, push 1, push 1"), inner(200)), 9)
	// 200 locals, and one word too many: the trap is within the generator.
	wantTrap(t, "one too many", brimful(row("drop, drop, push 9", behind, "out, push 1, push 1"), inner(201)), api.TrapStack, fillSteps+3+3+201)
	many := repeated("push 9, start 1, push 0, resume, drop", 5)
	wantDone(t, "many", brimful(row("drop, drop", many, "push 1, push 1"), inner(200)))
}
