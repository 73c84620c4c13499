package verify_test

import (
	"slices"
	"strconv"
	"strings"
	"testing"

	"yieldshape/api"
	"yieldshape/verify"
)

// words are those of the instructions, from OpPush on.
var words = strings.Fields("push truth load store drop neg not add sub mul div mod eq ne lt le gt ge and or jump else call ret end send recv out start resume yield alive")

// code reads instructions: words with commas between them, some with a number behind (A; of push N).
func code(text string) []api.Instr {
	var out []api.Instr
	for part := range strings.SplitSeq(text, ",") {
		f := strings.Fields(part)
		c := api.Instr{Op: 1 + slices.Index(words, f[0])}
		if c.Op == 0 {
			panic("no instruction: " + part)
		}
		if len(f) > 1 {
			n, err := strconv.Atoi(f[1])
			if err != nil {
				panic(err)
			}
			if c.Op == api.OpPush {
				c.N = int64(n)
			} else {
				c.A = n
			}
		}
		out = append(out, c)
	}
	return out
}

func task(text string, locals ...int) api.Unit {
	return api.Unit{Kind: api.DTask, Locals: locals, Code: code(text)}
}

// fn is a function whose locals are all parameters.
func fn(result int, text string, locals ...int) api.Unit {
	return api.Unit{Kind: api.DFn, Params: len(locals), Locals: locals, Result: result, Code: code(text)}
}

// gen is a generator whose locals are all parameters.
func gen(takes, result int, text string, locals ...int) api.Unit {
	return api.Unit{Kind: api.DGen, Params: len(locals), Locals: locals, Takes: takes, Result: result, Code: code(text)}
}

// Types: numbers, truths, and what the units G and H of around have started.
const (
	number = 1
	truth  = 2
	ofG    = api.Handle + unitG
	ofH    = api.Handle + unitH
)

// The boxes and the units of around.
const (
	boxNumber, boxTruth = 0, 1

	unitG    = 0 // ( truth ) takes truth yields number
	unitH    = 1 // ( number , truth , ofG ) takes number yields truth
	unitF    = 2 // ( number , truth , ofH ) number
	unitNone = 3 // ( ) truth
	unitEnd  = 4 // a task that ends
	unitHere = 5
)

// around has a box and a unit of each kind, and behind them the unit that is looked at, number unitHere.
func around(u ...api.Unit) api.Module {
	return api.Module{
		Boxes: []api.BoxInfo{{Type: number, Cap: 1}, {Type: truth, Cap: api.MaxCap}},
		Units: append([]api.Unit{
			gen(truth, number, "push 1, yield, drop, end", truth),
			gen(number, truth, "end", number, truth, ofG),
			fn(number, "push 1, ret", number, truth, ofH),
			fn(truth, "truth 1, ret"),
			task("end"),
		}, u...),
	}
}

func wantWhere(t *testing.T, what string, m api.Module, want api.Where) {
	t.Helper()
	if w := verify.Verify(m); w != want {
		t.Errorf("%.400s: %v; want %v", what, w, want)
	}
}

func wantGood(t *testing.T, what string, m api.Module) {
	t.Helper()
	wantWhere(t, what, m, api.Where{})
}

// wantFlow: a task with this code, and locals of the types number, truth and ofG, is wrong at an instruction; or not at all, if err is OK.
func wantFlow(t *testing.T, text string, err api.Errno, at int) {
	t.Helper()
	wantFlowOf(t, text, task(text, number, truth, ofG), err, at)
}

func wantFlowOf(t *testing.T, what string, u api.Unit, err api.Errno, at int) {
	t.Helper()
	want := api.Where{}
	if err != api.OK {
		want = api.Where{Err: err, Unit: unitHere, At: at}
	}
	wantWhere(t, what, around(u), want)
}

// repeated is text so many times, with commas between.
func repeated(text string, times int) string {
	return strings.Join(slices.Repeat([]string{text}, times), ",")
}
