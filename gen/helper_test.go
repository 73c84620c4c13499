package gen_test

import (
	"reflect"
	"slices"
	"strconv"
	"strings"
	"testing"

	"yieldshape/api"
	"yieldshape/gen"
	"yieldshape/syn"
	"yieldshape/verify"
)

// Types in modules.
const (
	number = 1
	truth  = 2
)

// words are those of the instructions, from OpPush on.
var words = strings.Fields("push truth load store drop neg not add sub mul div mod eq ne lt le gt ge and or jump else call ret end send recv out start resume yield alive")

// code reads instructions: words with commas between them, some with a number behind (A; of push N).
func code(text string) []api.Instr {
	var out []api.Instr
	for part := range strings.SplitSeq(text, ",") {
		f := strings.Fields(part)
		c := api.Instr{Op: 1 + slices.Index(words, f[0])}
		if c.Op == 0 {
			panic("no instruction: " + part)
		}
		if len(f) > 1 {
			n, err := strconv.Atoi(f[1])
			if err != nil {
				panic(err)
			}
			if c.Op == api.OpPush {
				c.N = int64(n)
			} else {
				c.A = n
			}
		}
		out = append(out, c)
	}
	return out
}

func task(text string, locals ...int) api.Unit {
	return api.Unit{Kind: api.DTask, Locals: locals, Code: code(text)}
}

func module(units ...api.Unit) api.Module { return api.Module{Units: units} }

func fault(err api.Errno, at int) api.Fault { return api.Fault{Err: err, At: at} }

func read(t *testing.T, text string) []api.Def {
	t.Helper()
	l, f := syn.Read(text)
	if f.Err != api.OK {
		t.Fatalf("Read(%q): %v", text, f)
	}
	return l
}

// full is m with lists that are not nil, so that modules may be held against each other (Z3).
func full(m api.Module) api.Module {
	out := api.Module{Boxes: append([]api.BoxInfo{}, m.Boxes...), Units: append([]api.Unit{}, m.Units...)}
	for i := range out.Units {
		u := &out.Units[i]
		u.Locals, u.Code = append([]int{}, u.Locals...), append([]api.Instr{}, u.Code...)
	}
	return out
}

func same(a, b api.Module) bool { return reflect.DeepEqual(full(a), full(b)) }

// wantModule: a text becomes that module, and that runs without getting stuck.
func wantModule(t *testing.T, text string, want api.Module) {
	t.Helper()
	wantModuleOf(t, text, read(t, text), want)
}

func wantModuleOf(t *testing.T, what string, l []api.Def, want api.Module) {
	t.Helper()
	m, f := gen.Compile(l)
	if f != (api.Fault{}) || !same(m, want) {
		t.Errorf("Compile(%.2000s) = %v, %v; want %v", what, m, f, want)
	}
	if w := verify.Verify(m); w != (api.Where{}) {
		t.Errorf("Compile(%.2000s) = %v: %v is wrong with it", what, m, w)
	}
}

func wantFault(t *testing.T, what string, l []api.Def, want api.Fault) {
	t.Helper()
	m, f := gen.Compile(l)
	if f != want {
		t.Errorf("Compile(%.2000s): %v; want %v", what, f, want)
	}
	if f.Err != api.OK && !reflect.DeepEqual(m, api.Module{}) {
		t.Errorf("Compile(%.2000s): %v beside %v", what, m, f)
	}
}

// around has a box and a unit of each sort, and behind them a unit that is looked at, number unitHere.
const around = `
box bn num 2 ;
fn f ( a num , b bool , h g ) num { }
box bb bool 1 ;
gen g ( a bool ) takes bool yields num { }
gen k ( ) takes num yields bool { }
fn e ( ) bool { }
`

// The units of around, and types of what its generators have started.
const (
	unitF, unitG, unitK, unitE, unitHere = 0, 1, 2, 3, 4

	ofG = api.Handle + unitG
	ofK = api.Handle + unitK
)

// wantUnit: behind around, that definition becomes that unit.
func wantUnit(t *testing.T, text string, want api.Unit) {
	t.Helper()
	whole := around + text + " task none { }"
	m := api.Module{
		Boxes: []api.BoxInfo{{Type: number, Cap: 2}, {Type: truth, Cap: 1}},
		Units: []api.Unit{
			{Kind: api.DFn, Params: 3, Locals: []int{number, truth, ofG}, Result: number, Code: code("push 0, ret")},
			{Kind: api.DGen, Params: 1, Locals: []int{truth}, Result: number, Takes: truth, Code: code("end")},
			{Kind: api.DGen, Result: truth, Takes: number, Code: code("end")},
			{Kind: api.DFn, Result: truth, Code: code("truth 0, ret")},
			want,
			task("end"),
		},
	}
	wantModule(t, whole, m)
}

// wantTask: behind around, a task with that body becomes that code, with locals of those types.
func wantTask(t *testing.T, body, text string, locals ...int) {
	t.Helper()
	wantUnit(t, "task here { "+body+" }", task(text, locals...))
}

// wantExpr: a task that lets go of an expression is its code, and two instructions more.
func wantExpr(t *testing.T, x, text string) {
	t.Helper()
	wantTask(t, "do "+x+" ;", text+", drop, end")
}
