package sched_test

import (
	"reflect"
	"slices"
	"strconv"
	"strings"
	"testing"

	"yieldshape/api"
	"yieldshape/gen"
	"yieldshape/sched"
	"yieldshape/syn"
)

// Types in modules.
const (
	number = 1
	truth  = 2
)

// words are those of the instructions, from OpPush on.
var words = strings.Fields("push truth load store drop neg not add sub mul div mod eq ne lt le gt ge and or jump else call ret end send recv out start resume yield alive")

// code reads instructions: words with commas between them, some with a number behind (A; of push N).
func code(text string) []api.Instr {
	var out []api.Instr
	for part := range strings.SplitSeq(text, ",") {
		f := strings.Fields(part)
		c := api.Instr{Op: 1 + slices.Index(words, f[0])}
		if c.Op == 0 {
			panic("no instruction: " + part)
		}
		if len(f) > 1 {
			n, err := strconv.ParseInt(f[1], 10, 64)
			if err != nil {
				panic(err)
			}
			if c.Op == api.OpPush {
				c.N = n
			} else {
				c.A = int(n)
			}
		}
		out = append(out, c)
	}
	return out
}

// row is pieces of code, one behind the other.
func row(pieces ...string) string {
	pieces = slices.DeleteFunc(pieces, func(s string) bool { return s == "" })
	return strings.Join(pieces, ",")
}

// repeated is text so many times, with commas between.
func repeated(text string, times int) string {
	return row(slices.Repeat([]string{text}, times)...)
}

// numbers are the types of so many locals.
func numbers(n int) []int { return slices.Repeat([]int{number}, n) }

func task(text string, locals ...int) api.Unit {
	return api.Unit{Kind: api.DTask, Locals: locals, Code: code(text)}
}

// fn is a function of numbers, without parameters.
func fn(text string) api.Unit {
	return api.Unit{Kind: api.DFn, Result: number, Code: code(text)}
}

// generator takes and yields numbers, without parameters.
func generator(text string) api.Unit {
	return api.Unit{Kind: api.DGen, Result: number, Takes: number, Code: code(text)}
}

// module has two boxes of numbers, with one and two places.
func module(units ...api.Unit) api.Module {
	return api.Module{Boxes: []api.BoxInfo{{Type: number, Cap: 1}, {Type: number, Cap: 2}}, Units: units}
}

func compiled(t *testing.T, text string) api.Module {
	t.Helper()
	l, f := syn.Read(text)
	if f.Err != api.OK {
		t.Fatalf("Read(%q): %v", text, f)
	}
	m, f := gen.Compile(l)
	if f.Err != api.OK {
		t.Fatalf("Compile(%q): %v", text, f)
	}
	return m
}

// picks are made of numbers by turns: a task's, and a quantum.
func picks(numbers ...int) []api.Pick {
	var l []api.Pick
	for n := range slices.Chunk(numbers, 2) {
		l = append(l, api.Pick{Task: n[0], Quantum: n[1]})
	}
	return l
}

// took are picks that took so many steps each, one behind the other.
func took(steps ...int) []api.Did {
	var l []api.Did
	for _, n := range steps {
		l = append(l, api.Did{Steps: n})
	}
	return l
}

func refused(err api.Errno) api.Did { return api.Did{Err: err} }

// full is w with lists that are not nil, so that worlds may be held against each other (Z3).
func full(w api.World) api.World {
	out := api.World{Tasks: []api.End{}, Boxes: [][]int64{}, Steps: w.Steps}
	for _, e := range w.Tasks {
		e.Out = append([]int64{}, e.Out...)
		out.Tasks = append(out.Tasks, e)
	}
	for _, l := range w.Boxes {
		out.Boxes = append(out.Boxes, append([]int64{}, l...))
	}
	return out
}

func same(a, b api.World) bool { return reflect.DeepEqual(full(a), full(b)) }

// quiet are how tasks stand that have put nothing out: a state and a box by turns.
func quiet(l ...int) []api.End {
	var out []api.End
	for n := range slices.Chunk(l, 2) {
		out = append(out, api.End{State: n[0], Box: n[1]})
	}
	return out
}

func wantRun(t *testing.T, what string, m api.Module, l []api.Pick, want api.World, wantDid []api.Did) {
	t.Helper()
	w, did, err := sched.Run(m, l)
	if err != api.OK || !same(w, want) || !slices.Equal(did, wantDid) {
		t.Errorf("%.400s: Run of %v = %+v, %v, %v; want %+v, %v", what, l, w, did, err, want, wantDid)
	}
}

// wantDid: what comes of these picks, whatever the world is then.
func wantDid(t *testing.T, what string, m api.Module, l []api.Pick, want ...api.Did) {
	t.Helper()
	w, did, err := sched.Run(m, l)
	if err != api.OK || !slices.Equal(did, want) {
		t.Errorf("%.400s: Run of %v = %+v, %v, %v; want %v", what, l, w, did, err, want)
	}
	sum := 0
	for _, d := range did {
		sum += d.Steps
	}
	if w.Steps != sum {
		t.Errorf("%.400s: Run of %v: %d steps; want %d", what, l, w.Steps, sum)
	}
}

func wantSettle(t *testing.T, what string, m api.Module, l []api.Pick, quantum int, want api.World) {
	t.Helper()
	w, err := sched.Settle(m, l, quantum)
	if err != api.OK || !same(w, want) {
		t.Errorf("%.400s: Settle of %v by %d = %+v, %v; want %+v", what, l, quantum, w, err, want)
	}
}

func wantTrace(t *testing.T, what string, m api.Module, l []api.Pick, want ...api.Event) {
	t.Helper()
	events, err := sched.Trace(m, l)
	if err != api.OK || !slices.Equal(events, want) {
		t.Errorf("%.400s: Trace of %v = %v, %v; want %v", what, l, events, err, want)
	}
}

// isNothing: beside an error every other result is zero (Z4).
func isNothing(w api.World) bool { return reflect.DeepEqual(w, api.World{}) }

func wantRunErr(t *testing.T, what string, m api.Module, l []api.Pick, want api.Errno) {
	t.Helper()
	if w, did, err := sched.Run(m, l); err != want || !isNothing(w) || len(did) > 0 {
		t.Errorf("%s: Run = %v, %v, %v; want nothing beside %v", what, w, did, err, want)
	}
	if events, err := sched.Trace(m, l); err != want || len(events) > 0 {
		t.Errorf("%s: Trace = %v, %v; want nothing beside %v", what, events, err, want)
	}
}

func wantSettleErr(t *testing.T, what string, m api.Module, l []api.Pick, quantum int, want api.Errno) {
	t.Helper()
	if w, err := sched.Settle(m, l, quantum); err != want || !isNothing(w) {
		t.Errorf("%s: Settle by %d = %v, %v; want nothing beside %v", what, quantum, w, err, want)
	}
}
