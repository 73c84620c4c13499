package verify_test

import (
	"fmt"
	"slices"
	"strings"
	"testing"

	"yieldshape/api"
)

// The locals of probed units, in which nothing is at first.
var probeLocals = []int{number, truth, ofG, ofH}

// making and unmaking: code that puts just this type, and that takes just this type, and nothing else.
func making(t int) string {
	return map[int]string{
		number: "push 7", truth: "truth 0", ofG: "truth 1, start 0",
		ofH: "push 1, truth 1, truth 1, start 0, start 1",
	}[t]
}

func unmaking(t int) string {
	return map[int]string{number: "neg, drop", truth: "not, drop", ofG: "store 2", ofH: "store 3"}[t]
}

// ending: how a unit of that kind comes to its end, when nothing is on its stack.
func ending(kind int) string {
	if kind == api.DFn {
		return "truth 1, ret"
	}
	return "end"
}

// probe is a unit that lays types on its stack, does what text says, and takes what must be there then, and nothing else. It answers at which instruction text ends.
func probe(kind int, text string, before, behind []int) (api.Unit, int) {
	var l []string
	for _, t := range before {
		l = append(l, making(t))
	}
	l = append(l, text)
	at := len(code(strings.Join(l, ","))) - 1
	for _, t := range slices.Backward(behind) {
		l = append(l, unmaking(t))
	}
	l = append(l, ending(kind))
	return api.Unit{Kind: kind, Locals: probeLocals, Takes: number, Result: truth, Code: code(strings.Join(l, ","))}, at
}

// stacksUpTo are all stacks of up to so many types.
func stacksUpTo(most int) [][]int {
	all := [][]int{nil}
	for i := 0; i < len(all); i++ {
		if len(all[i]) < most {
			for _, t := range probeLocals {
				all = append(all, append(slices.Clone(all[i]), t))
			}
		}
	}
	return all
}

// want is what comes of an instruction on a stack: what it leaves there, or what is wrong.
type want func(stack []int) ([]int, api.Errno)

// wantTurn: it takes these, the last one from the top, and puts those.
func wantTurn(takes []int, puts ...int) want {
	return func(stack []int) ([]int, api.Errno) {
		for _, t := range slices.Backward(takes) {
			if len(stack) == 0 {
				return nil, api.ErrStuck
			}
			if stack[len(stack)-1] != t {
				return nil, api.ErrType
			}
			stack = stack[:len(stack)-1]
		}
		return append(slices.Clone(stack), puts...), api.OK
	}
}

// wantOneOf: it takes what lies on top, if it is one of these, as wantTurn does.
func wantOneOf(tops []int, rest func(top int) want) want {
	return func(stack []int) ([]int, api.Errno) {
		if len(stack) == 0 {
			return nil, api.ErrStuck
		}
		top := stack[len(stack)-1]
		if !slices.Contains(tops, top) {
			return nil, api.ErrType
		}
		return rest(top)(stack)
	}
}

func wantResume(stack []int) ([]int, api.Errno) {
	if len(stack) < 2 {
		return nil, api.ErrStuck
	}
	switch n := len(stack) - 2; {
	case slices.Equal(stack[n:], []int{ofG, truth}):
		return append(slices.Clone(stack[:n]), number), api.OK
	case slices.Equal(stack[n:], []int{ofH, number}):
		return append(slices.Clone(stack[:n]), truth), api.OK
	}
	return nil, api.ErrType
}

// wantProbe: on each stack of up to most types the instruction does, in a unit of each of these kinds, what is wanted.
func wantProbe(t *testing.T, text string, most int, of []int, w want) {
	t.Helper()
	for _, kind := range of {
		for _, stack := range stacksUpTo(most) {
			behind, err := w(stack)
			u, at := probe(kind, text, stack, behind)
			wantFlowOf(t, fmt.Sprintf("kind %d, %s on %v", kind, text, stack), u, err, at)
		}
	}
}

func TestG4Reckoning(t *testing.T) {
	n, tt, nn := []int{number}, []int{truth, truth}, []int{number, number}
	wants := map[string]want{
		"push -5": wantTurn(nil, number), "truth 0": wantTurn(nil, truth), "truth 1": wantTurn(nil, truth),
		"neg": wantTurn(n, number), "not": wantTurn([]int{truth}, truth),
		"add": wantTurn(nn, number), "sub": wantTurn(nn, number), "mul": wantTurn(nn, number), "div": wantTurn(nn, number), "mod": wantTurn(nn, number),
		"lt": wantTurn(nn, truth), "le": wantTurn(nn, truth), "gt": wantTurn(nn, truth), "ge": wantTurn(nn, truth),
		"and": wantTurn(tt, truth), "or": wantTurn(tt, truth),
		"store 0": wantTurn(n), "store 1": wantTurn([]int{truth}), "store 2": wantTurn([]int{ofG}), "store 3": wantTurn([]int{ofH}),
		"send 0": wantTurn(n), "send 1": wantTurn([]int{truth}),
		"recv 0": wantTurn(nil, number), "recv 1": wantTurn(nil, truth),
		"resume": wantResume,
	}
	for text, w := range wants {
		wantProbe(t, text, 3, kinds, w)
	}
}

func TestG4TakesOneOfSeveral(t *testing.T) {
	plains, handles := []int{number, truth}, []int{ofG, ofH}
	drop := func(top int) want { return wantTurn([]int{top}) }
	two := func(top int) want { return wantTurn([]int{top, top}, truth) }
	wantProbe(t, "drop", 3, kinds, wantOneOf(probeLocals, drop))
	wantProbe(t, "out", 3, kinds, wantOneOf(plains, drop))
	wantProbe(t, "eq", 3, kinds, wantOneOf(plains, two))
	wantProbe(t, "ne", 3, kinds, wantOneOf(plains, two))
	wantProbe(t, "alive", 3, kinds, wantOneOf(handles, func(top int) want { return wantTurn([]int{top}, truth) }))
}

// TestG4CallsAndStarts: the parameters are taken, the last one from the top; locals that are none are not.
func TestG4CallsAndStarts(t *testing.T) {
	wantProbe(t, "call 2", 4, kinds, wantTurn([]int{number, truth, ofH}, number))
	wantProbe(t, "call 3", 2, kinds, wantTurn(nil, truth))
	wantProbe(t, "start 0", 2, kinds, wantTurn([]int{truth}, ofG))
	wantProbe(t, "start 1", 4, kinds, wantTurn([]int{number, truth, ofG}, ofH))
	m := around(task("truth 1, call 6, drop, end"), fn(truth, "truth 1, ret", truth))
	m.Units[6].Locals = []int{truth, number, number}
	wantGood(t, "locals behind the parameters", m)
	m.Units[6].Params = 2
	wantWhere(t, "parameters", m, api.Where{Err: api.ErrType, Unit: 5, At: 1})
	self := gen(truth, number, "load 0, start 5, drop, end", number)
	wantFlowOf(t, "a generator starts itself", self, api.OK, 0)
	again := fn(number, "load 0, call 5, ret", number)
	wantFlowOf(t, "a function calls itself", again, api.OK, 0)
}

// TestG4Jumps: what is left on the stack lies there at both places.
func TestG4Jumps(t *testing.T) {
	for _, stack := range stacksUpTo(2) {
		for _, kind := range kinds {
			here, at := probe(kind, "truth 1, else 0", stack, stack)
			here.Code[at].A = at + 1
			wantFlowOf(t, fmt.Sprint("else on ", stack), here, api.OK, 0)
			here, at = probe(kind, "jump 0", stack, stack)
			here.Code[at].A = at + 1
			wantFlowOf(t, fmt.Sprint("jump on ", stack), here, api.OK, 0)
			here, at = probe(kind, "else 0", stack, nil)
			here.Code[at].A = at + 1
			left, err := wantTurn([]int{truth})(stack)
			if err == api.OK {
				here, at = probe(kind, "else 0", stack, left)
				here.Code[at].A = at + 1
			}
			wantFlowOf(t, fmt.Sprint("else on ", stack, ", without a truth of its own"), here, err, at)
		}
	}
}

// TestG4Locals: the local must have something, and is loaded with its own type.
func TestG4Locals(t *testing.T) {
	for n, typ := range probeLocals {
		text := fmt.Sprintf("%s, store %d, load %d", making(typ), n, n)
		for _, kind := range kinds {
			u, at := probe(kind, text, nil, []int{typ})
			wantFlowOf(t, text, u, api.OK, at)
			u, at = probe(kind, text+fmt.Sprint(", load ", n), []int{truth}, []int{truth, typ, typ})
			wantFlowOf(t, text+", twice", u, api.OK, at)
			u, at = probe(kind, fmt.Sprint("load ", n), nil, []int{typ})
			wantFlowOf(t, "nothing stored", u, api.ErrState, at)
		}
	}
}

func TestG4Yield(t *testing.T) {
	wantProbe(t, "yield", 3, []int{api.DGen}, wantTurn([]int{truth}, number))
	wantProbe(t, "yield", 2, []int{api.DFn, api.DTask}, func([]int) ([]int, api.Errno) { return nil, api.ErrFit })
}

// TestG4RetAndEnd: nothing is left behind them, and nothing follows.
func TestG4RetAndEnd(t *testing.T) {
	left := func(takes ...int) want {
		return func(stack []int) ([]int, api.Errno) {
			rest, err := wantTurn(takes)(stack)
			if err == api.OK && len(rest) > 0 {
				err = api.ErrStuck
			}
			return nil, err
		}
	}
	fit := func([]int) ([]int, api.Errno) { return nil, api.ErrFit }
	wantProbe(t, "ret", 3, []int{api.DFn}, left(truth))
	wantProbe(t, "ret", 2, []int{api.DGen, api.DTask}, fit)
	wantProbe(t, "end", 3, []int{api.DGen, api.DTask}, left())
	wantProbe(t, "end", 2, []int{api.DFn}, fit)
	wantFlowOf(t, "nothing follows", fn(truth, "truth 1, ret, ret"), api.OK, 0)
	wantFlow(t, "end, drop", api.OK, 0)
}

// TestG4HowMuch: a stack has MaxStack types, and not one more; what takes ahead of putting may go on there.
func TestG4HowMuch(t *testing.T) {
	const most = api.MaxStack
	full := repeated("push 1", most)
	empty := repeated("drop", most) + ", end"
	wantFlow(t, full+","+empty, api.OK, 0)
	for _, text := range []string{"push 1", "truth 1", "recv 0", "recv 1", "call 3"} {
		wantFlow(t, full+","+text+",drop,"+empty, api.ErrMuch, most)
		wantFlow(t, repeated("push 1", most-1)+","+text+","+empty, api.OK, 0)
	}
	wantFlow(t, "push 1, store 0,"+full+", load 0, drop,"+empty, api.ErrMuch, most+2)
	wantFlow(t, full+", load 0, drop,"+empty, api.ErrState, most)
	for _, text := range []string{"neg", "push 1", "store 0, load 0", "drop, truth 1, start 0", "send 0, recv 1"} {
		err, at := api.OK, 0
		if text == "push 1" {
			err, at = api.ErrMuch, most
		}
		wantFlow(t, full+","+text+","+empty, err, at)
	}
	starts := repeated("push 1", most)
	m := around(task(starts+", start 6, drop,"+empty), gen(number, number, "end"))
	wantWhere(t, "a start without parameters", m, api.Where{Err: api.ErrMuch, Unit: unitHere, At: most})
	m.Units[unitHere] = task(repeated("push 1", most-1) + ", start 6," + empty)
	wantGood(t, "a start without parameters", m)
	wantFlowOf(t, "a generator that yields on a full stack", gen(truth, number, full+", yield,"+empty), api.OK, 0)
	// That it is too much is told ahead of that nothing follows.
	wantFlow(t, full+", push 1", api.ErrMuch, most)
	wantFlow(t, full, api.ErrRange, most-1)
	// Round a loop it is the stacks that are not the same.
	wantFlow(t, "push 1, jump 0", api.ErrFit, 1)
}

// TestG4WhichIsTold: one by one, from the top on.
func TestG4WhichIsTold(t *testing.T) {
	wantFlow(t, "truth 1, add, drop, end", api.ErrType, 1)
	wantFlow(t, "push 1, add, drop, end", api.ErrStuck, 1)
	wantFlow(t, "truth 1, push 1, add, drop, end", api.ErrType, 2)
	wantFlow(t, "truth 1, start 0, eq, drop, end", api.ErrType, 2)
	wantFlow(t, "truth 1, eq, drop, end", api.ErrStuck, 1)
	wantFlow(t, "truth 1, call 2, drop, end", api.ErrType, 1)
	wantFlow(t, "push 1, truth 1, truth 1, start 0, start 1, call 2, drop, end", api.ErrStuck, 5)
	wantFlow(t, "truth 1, resume, drop, end", api.ErrStuck, 1)
	wantFlow(t, "truth 1, start 0, resume, drop, end", api.ErrStuck, 2)
	wantFlow(t, "push 1, push 1, resume, drop, end", api.ErrType, 2)
	wantFlow(t, "yield, end", api.ErrFit, 0)
	wantFlow(t, "push 1, push 1, ret", api.ErrFit, 2)
	wantFlowOf(t, "a function ends", fn(number, "push 1, end"), api.ErrFit, 1)
	wantFlowOf(t, "a function returns something else", fn(number, "push 1, truth 1, ret"), api.ErrType, 2)
	wantFlowOf(t, "a function leaves something", fn(number, "truth 1, push 1, ret"), api.ErrStuck, 2)
}

// TestExample7: a number that is turned over as a truth is refused.
func TestExample7(t *testing.T) {
	wantFlow(t, "push 0, not, drop, end", api.ErrType, 1)
}
