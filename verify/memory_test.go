package verify_test

import (
	"fmt"
	"math/rand"
	"reflect"
	"runtime"
	"slices"
	"strings"
	"testing"

	"yieldshape/api"
	"yieldshape/verify"
)

// roomy is m with something behind each list, in its spare room.
func roomy(m api.Module) api.Module {
	m.Boxes = append(slices.Clone(m.Boxes), api.BoxInfo{Type: 77, Cap: 78})[:len(m.Boxes)]
	units := make([]api.Unit, 0, len(m.Units)+1)
	for _, u := range m.Units {
		u.Locals = append(slices.Clone(u.Locals), 79)[:len(u.Locals)]
		u.Code = append(slices.Clone(u.Code), api.Instr{Op: api.OpEnd, A: 81, N: 82})[:len(u.Code)]
		units = append(units, u)
	}
	m.Units = append(units, task("end"))[:len(units)]
	return m
}

// wide is m with the spare room of its lists, all of it copied.
func wide(m api.Module) api.Module {
	out := api.Module{Boxes: slices.Clone(m.Boxes[:cap(m.Boxes)])}
	for _, u := range m.Units[:cap(m.Units)] {
		u.Locals, u.Code = slices.Clone(u.Locals[:cap(u.Locals)]), slices.Clone(u.Code[:cap(u.Code)])
		out.Units = append(out.Units, u)
	}
	return out
}

// TestArgumentsAreOnlyRead: nor is the spare room behind them changed, or looked at (Z2).
func TestArgumentsAreOnlyRead(t *testing.T) {
	r := rand.New(rand.NewSource(17))
	for range 500 {
		good := newModule(r)
		for _, m := range []api.Module{good, spoilt(r, good), spoilt(r, good), {}} {
			full := roomy(m)
			before := wide(full)
			if got, want := verify.Verify(full), oracle(m); got != want {
				t.Fatalf("with spare room behind: %v; want %v", got, want)
			}
			if !reflect.DeepEqual(wide(full), before) {
				t.Fatalf("%v becomes %v", before, wide(full))
			}
		}
	}
}

// TestAnswersHangOnArgumentsAlone: not on how often one asks, nor on what was asked ahead of that (Z1).
func TestAnswersHangOnArgumentsAlone(t *testing.T) {
	r := rand.New(rand.NewSource(18))
	var modules []api.Module
	var first []api.Where
	for range 300 {
		m := newModule(r)
		modules = append(modules, m)
		first = append(first, verify.Verify(m))
	}
	for range 5 {
		for _, i := range r.Perm(len(modules)) {
			if w := verify.Verify(modules[i]); w != first[i] {
				t.Fatalf("%v, at first %v", w, first[i])
			}
		}
	}
}

// restless is a unit as great as may be, whose code is gone through again and again: each of many locals is lost a while behind the others.
func restless() api.Unit {
	var l []string
	const waves = 40
	for n := range waves {
		at := len(l)
		delay := 4 + 2*(waves-n) // by one step alone they would catch up with each other
		// The long way stores nothing, and comes later than the short one.
		l = append(l, "truth 1", fmt.Sprint("else ", at+5), "push 1", fmt.Sprint("store ", n), fmt.Sprint("jump ", at+5+delay))
		for i := range delay {
			l = append(l, fmt.Sprint("jump ", at+6+i))
		}
	}
	for n := waves; n < api.MaxLocals; n++ {
		l = append(l, "push 1", fmt.Sprint("store ", n))
	}
	l = append(l, slices.Repeat([]string{"push 1"}, api.MaxStack-1)...)
	for len(l) < api.MaxCode-api.MaxStack {
		l = append(l, "push 1", "drop")
	}
	l = l[:api.MaxCode-api.MaxStack]
	if l[len(l)-1] == "push 1" {
		l[len(l)-1] = fmt.Sprint("jump ", len(l))
	}
	l = append(l, slices.Repeat([]string{"drop"}, api.MaxStack-1)...)
	return task(strings.Join(append(l, "end"), ","), slices.Repeat([]int{number}, api.MaxLocals)...)
}

// TestAsGreatAsMayBe: such modules are looked through without much ado.
func TestAsGreatAsMayBe(t *testing.T) {
	u := restless()
	if len(u.Code) != api.MaxCode {
		t.Fatalf("%d instructions", len(u.Code))
	}
	m := api.Module{Units: []api.Unit{u}}
	if w := oracle(m); w != (api.Where{}) {
		t.Fatalf("%v is wrong with it", w)
	}
	wantGood(t, "one unit", m)
	m.Units = slices.Repeat(m.Units, api.MaxUnits)
	wantGood(t, "all units", m)
	m.Units[api.MaxUnits-1].Code = append(slices.Clone(u.Code[:api.MaxCode-1]), api.Instr{Op: api.OpDrop})
	wantWhere(t, "the last instruction of the last unit", m, api.Where{Err: api.ErrStuck, Unit: api.MaxUnits - 1, At: api.MaxCode - 1})
}

// TestNoMuchTooMuchRoom: what is refused for its sizes is refused without laying out room for it.
func TestNoMuchTooMuchRoom(t *testing.T) {
	m := api.Module{Units: []api.Unit{{Kind: api.DTask, Locals: make([]int, 1<<22), Code: make([]api.Instr, 1<<22)}}}
	var before, after runtime.MemStats
	runtime.ReadMemStats(&before)
	w := verify.Verify(m)
	runtime.ReadMemStats(&after)
	if n := after.TotalAlloc - before.TotalAlloc; w != (api.Where{Err: api.ErrMany}) || n > 1<<20 {
		t.Errorf("%v, with %d bytes of room", w, n)
	}
}
