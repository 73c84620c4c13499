package vm_test

import (
	"reflect"
	"slices"
	"strconv"
	"strings"
	"testing"

	"yieldshape/api"
	"yieldshape/gen"
	"yieldshape/syn"
	"yieldshape/vm"
)

// Types in modules.
const (
	number = 1
	truth  = 2
)

// words are those of the instructions, from OpPush on.
var words = strings.Fields("push truth load store drop neg not add sub mul div mod eq ne lt le gt ge and or jump else call ret end send recv out start resume yield alive")

// code reads instructions: words with commas between them, some with a number behind (A; of push N).
func code(text string) []api.Instr {
	var out []api.Instr
	for part := range strings.SplitSeq(text, ",") {
		f := strings.Fields(part)
		c := api.Instr{Op: 1 + slices.Index(words, f[0])}
		if c.Op == 0 {
			panic("no instruction: " + part)
		}
		if len(f) > 1 {
			n, err := strconv.ParseInt(f[1], 10, 64)
			if err != nil {
				panic(err)
			}
			if c.Op == api.OpPush {
				c.N = n
			} else {
				c.A = int(n)
			}
		}
		out = append(out, c)
	}
	return out
}

// row is pieces of code, one behind the other.
func row(pieces ...string) string {
	pieces = slices.DeleteFunc(pieces, func(s string) bool { return s == "" })
	return strings.Join(pieces, ",")
}

// repeated is text so many times, with commas between.
func repeated(text string, times int) string {
	return row(slices.Repeat([]string{text}, times)...)
}

// numbers are the types of so many locals.
func numbers(n int) []int { return slices.Repeat([]int{number}, n) }

func task(text string, locals ...int) api.Unit {
	return api.Unit{Kind: api.DTask, Locals: locals, Code: code(text)}
}

// fn is a function of numbers, the first locals of which are parameters.
func fn(params, locals int, text string) api.Unit {
	return api.Unit{Kind: api.DFn, Params: params, Locals: numbers(locals), Result: number, Code: code(text)}
}

// generator takes and yields numbers; its first locals are parameters.
func generator(params, locals int, text string) api.Unit {
	return api.Unit{Kind: api.DGen, Params: params, Locals: numbers(locals), Result: number, Takes: number, Code: code(text)}
}

// numberBox is a list of one box, of numbers.
var numberBox = []api.BoxInfo{{Type: number, Cap: 1}}

func module(units ...api.Unit) api.Module { return api.Module{Boxes: numberBox, Units: units} }

func compiled(t *testing.T, text string) api.Module {
	t.Helper()
	l, f := syn.Read(text)
	if f.Err != api.OK {
		t.Fatalf("Read(%q): %v", text, f)
	}
	m, f := gen.Compile(l)
	if f.Err != api.OK {
		t.Fatalf("Compile(%q): %v", text, f)
	}
	return m
}

// full is r with lists that are not nil, so that reports may be held against each other (Z3).
func full(r api.Report) api.Report {
	r.Out, r.Took = append([]int64{}, r.Out...), append([]int{}, r.Took...)
	sent := [][]int64{}
	for _, l := range r.Sent {
		sent = append(sent, append([]int64{}, l...))
	}
	r.Sent = sent
	return r
}

func same(a, b api.Report) bool { return reflect.DeepEqual(full(a), full(b)) }

func wantErr(t *testing.T, what string, m api.Module, task int, feeds [][]int64, most int, want api.Errno) {
	t.Helper()
	r, err := vm.Solo(m, task, feeds, most)
	if err != want || want != api.OK && !reflect.DeepEqual(r, api.Report{}) {
		t.Errorf("%.400s: Solo = %v, %v; want nothing beside %v", what, r, err, want)
	}
}

func wantReport(t *testing.T, what string, m api.Module, task int, feeds [][]int64, most int, want api.Report) {
	t.Helper()
	r, err := vm.Solo(m, task, feeds, most)
	if err != api.OK || !same(r, want) {
		t.Errorf("%.400s: Solo(task %d, %v, %d) = %+v, %v; want %+v", what, task, feeds, most, r, err, want)
	}
}

// solo runs the first task of a module with its one box fed so, as long as may be.
func solo(t *testing.T, what string, m api.Module, feed ...int64) api.Report {
	t.Helper()
	r, err := vm.Solo(m, 0, [][]int64{feed}, api.MaxSolo)
	if err != api.OK {
		t.Fatalf("%.400s: Solo: %v", what, err)
	}
	return r
}

// wantDone: a module's first task comes to its end, with that put out.
func wantDone(t *testing.T, what string, m api.Module, out ...int64) {
	t.Helper()
	r := solo(t, what, m)
	if r.State != api.Done || r.Box != 0 || r.Trap != 0 || !slices.Equal(r.Out, out) {
		t.Errorf("%.400s: %+v; want it done, with %v out", what, r, out)
	}
}

// wantTrap: a module's first task is trapped, with that step.
func wantTrap(t *testing.T, what string, m api.Module, trap, steps int, out ...int64) {
	t.Helper()
	r := solo(t, what, m)
	if r.State != api.Trapped || r.Box != 0 || r.Trap != trap || r.Steps != steps || !slices.Equal(r.Out, out) {
		t.Errorf("%.400s: %+v; want trap %d with step %d, and %v out", what, r, trap, steps, out)
	}
}

// wantText: a program whose first task does that, as long as it goes; trap is 0 where it comes to its end.
func wantText(t *testing.T, text string, trap int, out ...int64) {
	t.Helper()
	m := compiled(t, "box odd num 1 ; "+text)
	r := solo(t, text, m)
	state := api.Trapped
	if trap == 0 {
		state = api.Done
	}
	if r.State != state || r.Box != 0 || r.Trap != trap || !slices.Equal(r.Out, out) {
		t.Errorf("%s: %+v; want state %d, trap %d, and %v out", text, r, state, trap, out)
	}
}
