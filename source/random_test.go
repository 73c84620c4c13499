package source_test

import (
	"fmt"
	"slices"
	"testing"

	"yieldshape/api"
	"yieldshape/gen"
	"yieldshape/sched"
	"yieldshape/source"
	"yieldshape/syn"
)

// text is a program as a text, as far as it isn't too long for one.
func text(l []api.Def) string {
	s, f := syn.Print(l)
	if f.Err != api.OK {
		return fmt.Sprintf("%+v", l)
	}
	return s
}

// seen is what came how often.
type seen struct {
	ends  map[[2]int]int // states and traps
	rest  map[bool]int
	nodes map[int]int // kinds of expressions, as they stand in programs that come to rest
}

func (s seen) note(l []api.Def, w api.World) {
	for _, e := range w.Tasks {
		s.ends[[2]int{e.State, e.Trap}]++
	}
	walk(l, func(x api.Expr) { s.nodes[x.Kind]++ })
}

// walk goes to all expressions of a program.
func walk(l []api.Def, at func(api.Expr)) {
	var expr func(x api.Expr)
	expr = func(x api.Expr) {
		at(x)
		for _, k := range x.Kids {
			expr(k)
		}
	}
	var block func(l []api.Stat)
	block = func(l []api.Stat) {
		for _, s := range l {
			if s.Kind != api.SStop {
				expr(s.X)
			}
			block(s.Body)
			block(s.Else)
		}
	}
	for _, d := range l {
		block(d.Body)
	}
}

// enough: whatever may come comes that often, but TrapBusy (see TestK2Busy).
func (s seen) enough(t *testing.T, least int) {
	t.Helper()
	for _, way := range [][2]int{
		{api.Sending, 0}, {api.Waiting, 0}, {api.Done, 0},
		{api.Trapped, api.TrapZero}, {api.Trapped, api.TrapDone}, {api.Trapped, api.TrapMany},
	} {
		if s.ends[way] < least {
			t.Errorf("state and trap %v come %d times: that tells too little", way, s.ends[way])
		}
	}
	if s.rest[true] < 20*least || s.rest[false] < least {
		t.Errorf("%d come to rest, %d don't: that tells too little", s.rest[true], s.rest[false])
	}
	for kind := api.ENum; kind <= api.EAlive; kind++ {
		if s.nodes[kind] < least {
			t.Errorf("expressions of kind %d stand there %d times: that tells too little", kind, s.nodes[kind])
		}
	}
}

// TestRandomPrograms: Play tells what the second reckoning tells.
func TestRandomPrograms(t *testing.T) {
	s := seen{map[[2]int]int{}, map[bool]int{}, map[int]int{}}
	for _, p := range made(t, 11, 3000) {
		o := newOracle(p.defs)
		rests := o.settle()
		want, wantFault := api.World{}, fault(api.ErrSteps, 0)
		if rests {
			want, wantFault = o.world(), api.Fault{}
			s.note(p.defs, want)
		}
		o.halt()
		s.rest[rests]++
		if w, f := source.Play(p.defs); f != wantFault || !same(w, want) {
			t.Fatalf("%s\nPlay = %+v, %v; want %+v, %v", text(p.defs), w, f, want, wantFault)
		}
	}
	s.enough(t, 60)
}

// TestTheCompilerIsRight: where both come to rest, and no stack was too much, a program does as it stands what its module does.
func TestTheCompilerIsRight(t *testing.T) {
	both := 0
	for _, p := range made(t, 12, 2000) {
		w, f := source.Play(p.defs)
		m, g := gen.Compile(p.defs)
		if g != (api.Fault{}) {
			t.Fatalf("%s\nCompile: %v", text(p.defs), g)
		}
		ran, err := sched.Settle(m, nil, 100)
		stack := slices.ContainsFunc(ran.Tasks, func(e api.End) bool { return e.Trap == api.TrapStack })
		if f.Err != api.OK || err != api.OK || stack {
			continue
		}
		both++
		ran.Steps = w.Steps // nodes, not instructions
		if !same(w, ran) {
			t.Fatalf("%s\nPlay = %+v; as a module %+v", text(p.defs), w, ran)
		}
	}
	if both < 800 {
		t.Errorf("%d do both: that tells too little", both)
	}
}
