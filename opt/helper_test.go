package opt_test

import (
	"fmt"
	"reflect"
	"slices"
	"strconv"
	"strings"
	"testing"

	"yieldshape/api"
	"yieldshape/opt"
	"yieldshape/verify"
)

// Types in modules.
const (
	number = 1
	truth  = 2
)

// words are those of the instructions, from OpPush on.
var words = strings.Fields("push truth load store drop neg not add sub mul div mod eq ne lt le gt ge and or jump else call ret end send recv out start resume yield alive")

// code reads instructions: words with commas between them, some with a number behind (A; of push N).
func code(text string) []api.Instr {
	var out []api.Instr
	for part := range strings.SplitSeq(text, ",") {
		f := strings.Fields(part)
		c := api.Instr{Op: 1 + slices.Index(words, f[0])}
		if c.Op == 0 {
			panic("no instruction: " + part)
		}
		if len(f) > 1 {
			n, err := strconv.ParseInt(f[1], 10, 64)
			if err != nil {
				panic(err)
			}
			if c.Op == api.OpPush {
				c.N = n
			} else {
				c.A = int(n)
			}
		}
		out = append(out, c)
	}
	return out
}

// textOf is what code would read.
func textOf(l []api.Instr) string {
	var out []string
	for _, c := range l {
		switch word := words[c.Op-1]; word {
		case "push":
			out = append(out, fmt.Sprint(word, " ", c.N))
		case "truth", "load", "store", "jump", "else", "call", "send", "recv", "start":
			out = append(out, fmt.Sprint(word, " ", c.A))
		default:
			out = append(out, word)
		}
	}
	return strings.Join(out, ", ")
}

// row is pieces of code, one behind the other.
func row(pieces ...string) string {
	pieces = slices.DeleteFunc(pieces, func(s string) bool { return s == "" })
	return strings.Join(pieces, ", ")
}

// repeated is text so many times, with commas between.
func repeated(text string, times int) string {
	return row(slices.Repeat([]string{text}, times)...)
}

// task is one with this code, and a local of each plain type.
func task(l []api.Instr) api.Unit {
	return api.Unit{Kind: api.DTask, Locals: []int{number, truth}, Code: l}
}

// around has a task with that code, and behind it a unit of each other kind; and boxes of each type.
func around(l []api.Instr) api.Module {
	return api.Module{
		Boxes: []api.BoxInfo{{Type: number, Cap: 2}, {Type: truth, Cap: 1}},
		Units: []api.Unit{
			task(l),
			{Kind: api.DFn, Params: 1, Locals: []int{number}, Result: number, Code: code("load 0, ret")},
			{Kind: api.DGen, Params: 1, Locals: []int{truth}, Result: number, Takes: number, Code: code("load 0, drop, push 1, yield, drop, end")},
		},
	}
}

// full is m with lists that are not nil, so that modules may be held against each other (Z3).
func full(m api.Module) api.Module {
	out := api.Module{Boxes: append([]api.BoxInfo{}, m.Boxes...), Units: append([]api.Unit{}, m.Units...)}
	for i := range out.Units {
		u := &out.Units[i]
		u.Locals, u.Code = append([]int{}, u.Locals...), append([]api.Instr{}, u.Code...)
	}
	return out
}

func same(a, b api.Module) bool { return reflect.DeepEqual(full(a), full(b)) }

func wantModule(t *testing.T, what string, m, want api.Module) {
	t.Helper()
	if got, w := opt.Module(m); w != (api.Where{}) || !same(got, want) {
		t.Errorf("%.400s: Module = %.400s, %v; want %.400s", what, fmt.Sprint(got), w, fmt.Sprint(want))
	}
}

func wantWhere(t *testing.T, what string, m api.Module, want api.Where) {
	t.Helper()
	if got, w := opt.Module(m); w != want || !reflect.DeepEqual(got, api.Module{}) {
		t.Errorf("%.400s: Module = %v, %v; want nothing beside %v", what, got, w, want)
	}
}

// wantInstrs: of a task with that code just that is left, and it runs without getting stuck.
func wantInstrs(t *testing.T, l, want []api.Instr) {
	t.Helper()
	m, w := opt.Module(around(l))
	if w != (api.Where{}) {
		t.Errorf("%.400s: Module: %v", textOf(l), w)
		return
	}
	if got := m.Units[0].Code; !slices.Equal(got, want) {
		t.Errorf("%.400s: becomes %.400s %.400s; want %.400s %.400s", textOf(l), textOf(got), fmt.Sprint(got), textOf(want), fmt.Sprint(want))
	}
	if w := verify.Verify(m); w != (api.Where{}) {
		t.Errorf("%.400s: what is left is wrong: %v", textOf(l), w)
	}
}

func wantCode(t *testing.T, text, want string) {
	t.Helper()
	wantInstrs(t, code(text), code(want))
}

// wantStays: nothing is done with that code.
func wantStays(t *testing.T, text string) {
	t.Helper()
	wantCode(t, text, text)
}
