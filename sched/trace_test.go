package sched_test

import (
	"fmt"
	"slices"
	"testing"

	"yieldshape/api"
	"yieldshape/sched"
)

func out(task int, v int64) api.Event { return api.Event{Task: task, Kind: api.EvOut, V: v} }

func sent(task, box int, v int64) api.Event {
	return api.Event{Task: task, Kind: api.EvSend, Box: box, V: v}
}

func received(task, box int, v int64) api.Event {
	return api.Event{Task: task, Kind: api.EvRecv, Box: box, V: v}
}

func done(task int) api.Event { return api.Event{Task: task, Kind: api.EvDone} }

func trapped(task int, by int64) api.Event { return api.Event{Task: task, Kind: api.EvTrap, V: by} }

func started(task int, unit int64) api.Event {
	return api.Event{Task: task, Kind: api.EvStart, V: unit}
}

// TestJ3Nothing: what is neither put out, sent, received, started nor over is not told, nor is what is refused.
func TestJ3Nothing(t *testing.T) {
	m := module(task("push 1, push 2, add, neg, drop, truth 1, not, else 9, jump 0, push 3, store 0, load 0, drop, call 2, drop, recv 0, drop, end", number), task("recv 1, out, end"), fn("push 1, ret"))
	wantTrace(t, "no picks", m, nil)
	wantTrace(t, "no picks", m, []api.Pick{})
	wantTrace(t, "refused", m, picks(1, 5, 2, 1, -1, 1, 0, 0, 0, 10001))
	wantTrace(t, "nothing told", m, picks(0, 10000, 0, 5))
	wantTrace(t, "for ever", module(task("jump 0")), picks(0, 10000, 0, 10000, 0, 1))
}

// TestJ3Kinds: each kind by itself, with the step that does it and not ahead of that.
func TestJ3Kinds(t *testing.T) {
	gens := []api.Unit{fn("push 1, ret"), generator("end"), generator("push 8, yield, drop, end"), task("end")}
	for _, c := range []struct {
		text  string
		steps int
		want  []api.Event
	}{
		{"push -7, out, end", 2, []api.Event{out(1, -7)}},
		{"truth 1, out, end", 2, []api.Event{out(1, 1)}},
		{"push -7, send 0, end", 2, []api.Event{sent(1, 0, -7)}},
		{"push 6, send 1, end", 2, []api.Event{sent(1, 1, 6)}},
		{"push 6, send 1, push 9, drop, recv 1, out, end", 5, []api.Event{sent(1, 1, 6), received(1, 1, 6)}},
		{"end", 1, []api.Event{done(1)}},
		{"push 1, drop, end", 3, []api.Event{done(1)}},
		{"push 1, push 0, div, out, end", 3, []api.Event{trapped(1, api.TrapZero)}},
		{"push 1, push 0, mod, out, end", 3, []api.Event{trapped(1, api.TrapZero)}},
		{"start 1, drop, end", 1, []api.Event{started(1, 1)}},
		{"push 1, drop, start 2, drop, end", 3, []api.Event{started(1, 2)}},
	} {
		m := module(append(slices.Clone(gens), task(c.text))...)
		wantTrace(t, c.text, m, picks(1, c.steps), c.want...)
		var ahead []api.Pick
		if c.steps > 1 {
			ahead = picks(1, c.steps-1)
		}
		wantTrace(t, c.text, m, ahead, c.want[:len(c.want)-1]...)
	}
}

// TestJ3ByTurns: events come as they happen, each with its task's number, which is not its unit's.
func TestJ3ByTurns(t *testing.T) {
	m := module(fn("push 1, ret"), task("push 7, send 1, push 8, send 1, end"), generator("end"), task("recv 1, out, jump 0"), task("push 3, out, end"))
	wantTrace(t, "by turns", m, picks(1, 1, 0, 2, 2, 2, 1, 1, 0, 1, 1, 1, 0, 9, 2, 5, 1, 100, 2, 1, 0, 1),
		sent(0, 1, 7), out(2, 3), received(1, 1, 7), out(1, 7), sent(0, 1, 8), done(0), done(2), received(1, 1, 8), out(1, 8))
	wantTrace(t, "one behind the other", m, picks(0, 100, 1, 100, 2, 100),
		sent(0, 1, 7), sent(0, 1, 8), done(0), received(1, 1, 7), out(1, 7), received(1, 1, 8), out(1, 8), out(2, 3), done(2))
}

// TestJ3Within: what a function or a generator does is the task's; a generator's end is not the task's, nor is it told that it is resumed or yields.
func TestJ3Within(t *testing.T) {
	m := compiled(t, `
box a num 1 ;
fn f ( n num ) num { send a n ; return recv ( a ) ; }
gen inner ( ) takes num yields num { out f ( 5 ) ; }
gen outer ( ) takes num yields num { let h = start inner ( ) ; do yield ( 1 ) ; do resume ( h , 0 ) ; out 6 ; }
task t { let h = start outer ( ) ; out resume ( h , 2 ) ; do resume ( h , 3 ) ; out 7 ; do resume ( h , 4 ) ; }`)
	wantTrace(t, "within", m, picks(0, 100), started(0, 2), started(0, 1), out(0, 1),
		sent(0, 0, 5), received(0, 0, 5), out(0, 5), out(0, 6), out(0, 7), trapped(0, api.TrapDone))
}

// brimful is a task that comes to what stands behind with MaxWords words on its stack.
func brimful(behind string) api.Unit {
	return task(row("push 1, store 0", repeated("push 7", 200), behind, repeated("drop", 200), "end"), numbers(200)...)
}

// fillSteps is how many steps it takes to come there.
const fillSteps = 202

// TestJ3TrapComesBehind: what is received or started is, though the word that comes on top is too much.
func TestJ3TrapComesBehind(t *testing.T) {
	no := trapped(0, api.TrapStack)
	end := generator("end")
	for _, c := range []struct {
		behind string
		want   []api.Event
	}{
		{"start 1, drop", []api.Event{started(0, 1), no}},
		{"push 1, drop", []api.Event{no}},
		{"load 0, drop", []api.Event{no}},
		{"truth 1, drop", []api.Event{no}},
		{"drop, start 1, drop, push 1", []api.Event{started(0, 1), done(0)}},
	} {
		wantTrace(t, c.behind, module(brimful(c.behind), end), picks(0, 10000), c.want...)
	}
	m := module(brimful("recv 1, drop"), end, task("push 4, send 1, push 5, send 1, end"))
	l := picks(1, 10, 0, 10000)
	wantTrace(t, "received", m, l, sent(1, 1, 4), sent(1, 1, 5), done(1), received(0, 1, 4), no)
	want := api.World{Tasks: quiet(api.Trapped, 0, api.Done, 0), Boxes: [][]int64{nil, {5}}, Steps: 5 + fillSteps + 1}
	want.Tasks[0].Trap = api.TrapStack
	wantRun(t, "received", m, l, want, took(5, fillSteps+1))
	wantTrace(t, "nothing to receive", m, picks(0, 10000))
}

// TestJ3TooMany: where that is a trap nothing is started.
func TestJ3TooMany(t *testing.T) {
	m := module(task(row(repeated("start 1, drop", api.MaxCos+1), "end")), generator("end"))
	want := slices.Repeat([]api.Event{started(0, 1)}, api.MaxCos)
	wantTrace(t, "just as many", m, picks(0, 2*api.MaxCos), want...)
	wantTrace(t, "one more", m, picks(0, 10000), append(want, trapped(0, api.TrapMany))...)
	// With no room on top, either: by TrapMany.
	many := row("drop", repeated("start 1, drop", api.MaxCos), "push 1, start 1, drop")
	wantTrace(t, "one more, and no room", module(brimful(many), generator("end")), picks(0, 10000), append(want, trapped(0, api.TrapMany))...)
}

// TestJ3Traps: V tells by what, and which task's it is; others go on.
func TestJ3Traps(t *testing.T) {
	for by, text := range map[int64]string{
		api.TrapZero:  "push 1, push 0, div, out, end",
		api.TrapDone:  "start 1, store 0, load 0, push 0, resume, drop, load 0, push 0, resume, drop, end",
		api.TrapStack: "call 2, drop, end",
		api.TrapMany:  row(repeated("start 1, drop", api.MaxCos+1), "end"),
	} {
		m := module(task("push 2, out, end"), generator("end"), fn("call 2, ret"), task(text, api.Handle+1))
		events, err := sched.Trace(m, picks(0, 2, 1, 10000, 0, 1, 1, 1))
		events = slices.DeleteFunc(events, func(e api.Event) bool { return e.Kind == api.EvStart })
		if want := []api.Event{out(0, 2), trapped(1, by), done(0)}; err != api.OK || !slices.Equal(events, want) {
			t.Errorf("trap %d: %v, %v; want %v", by, events, err, want)
		}
	}
}

// TestJ3Boxes: each by its number, of as many as there may be.
func TestJ3Boxes(t *testing.T) {
	m := api.Module{Boxes: slices.Repeat([]api.BoxInfo{{Type: number, Cap: 1}}, api.MaxDefs)}
	var text string
	var want []api.Event
	for n := range m.Boxes {
		text = row(text, fmt.Sprintf("push %d, send %d, recv %d, out", 100+n, n, n))
		v := int64(100 + n)
		want = append(want, sent(0, n, v), received(0, n, v), out(0, v))
	}
	m.Units = []api.Unit{task(row(text, "end"))}
	wantTrace(t, "box by box", m, picks(0, 10000), append(want, done(0))...)
}

// TestJ3HowFar: events of picks that come later stand behind those of the first ones.
func TestJ3HowFar(t *testing.T) {
	m := compiled(t, pipe)
	l := slices.Repeat(picks(0, 3, 2, 4, 1, 2), 60)
	all, _ := sched.Trace(m, l)
	if len(all) != 5*5+1 {
		t.Errorf("%d events: %v", len(all), all)
	}
	for n := range l {
		events, err := sched.Trace(m, l[:n])
		if err != api.OK || len(events) > len(all) || !slices.Equal(events, all[:len(events)]) {
			t.Errorf("%d picks: %v, %v; want a beginning of %v", n, events, err, all)
		}
	}
}
