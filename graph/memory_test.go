package graph_test

import (
	"fmt"
	"reflect"
	"slices"
	"testing"
	"unsafe"

	"yieldshape/api"
	"yieldshape/graph"
)

// sample has three tasks between boxes, one of which is left.
const sample = `box p num 1 ; fn f ( ) num { return recv ( p ) ; } box q num 2 ;
	task b { out f ( ) ; } task c { send q recv ( q ) ; } task a { send p 1 ; }`

// roomy is a list with something behind it, in its spare room.
func roomy[T any](l []T, behind T) []T { return append(slices.Clone(l), behind)[:len(l)] }

func roomyDefs(l []api.Def) []api.Def {
	odd := api.Stat{Kind: api.SSend, Name: "p", X: api.Expr{Kind: api.ENum}}
	out := roomy(l, api.Def{Kind: api.DTask, Name: "odd", Body: []api.Stat{odd}})
	for i := range out {
		out[i].Params = roomy(out[i].Params, api.Param{Name: "odd"})
		out[i].Body = roomy(out[i].Body, odd)
	}
	return out
}

// told is a program with its spare room, as a text.
func told(l []api.Def) string {
	out := fmt.Sprint(len(l))
	for _, d := range l[:cap(l)] {
		out += fmt.Sprintf("\n%+v %+v %+v", d, d.Params[:cap(d.Params)], d.Body[:cap(d.Body)])
	}
	return out
}

func TestZ2ProgramsAreOnlyRead(t *testing.T) {
	l := roomyDefs(read(t, sample))
	before := told(l)
	wantEdgesOf(t, "with spare room", l, edges("p a b q c c"))
	wantOrderOf(t, "with spare room", l, []string{"a", "b"}, []string{"c"})
	if told(l) != before {
		t.Errorf("%s becomes %s", before, told(l))
	}
}

func sampleModule() api.Module {
	return module(task("push 1, send 0, jump 0"), fn("recv 0, ret"), task("end, call 1, drop, end"), task("recv 2, out, end"))
}

// wide is a module with the spare room of its lists, copied.
func wide(m api.Module) api.Module {
	out := api.Module{Boxes: slices.Clone(m.Boxes[:cap(m.Boxes)])}
	for _, u := range m.Units[:cap(m.Units)] {
		u.Locals, u.Code = slices.Clone(u.Locals[:cap(u.Locals)]), slices.Clone(u.Code[:cap(u.Code)])
		out.Units = append(out.Units, u)
	}
	return out
}

func TestZ2ModulesAreOnlyRead(t *testing.T) {
	m := sampleModule()
	m.Boxes = roomy(m.Boxes, api.BoxInfo{Type: 77})
	// Whatever is behind an end of these lists would send to the box that is waited for.
	m.Units = roomy(m.Units, task("end, push 1, send 2, end"))
	for i := range m.Units {
		m.Units[i].Code = roomy(m.Units[i].Code, api.Instr{Op: api.OpSend, A: 2})
		m.Units[i].Locals = roomy(m.Units[i].Locals, 78)
	}
	picks := roomy([]api.Pick{{Task: 1, Quantum: 1}, {Task: 0, Quantum: 2}}, api.Pick{Task: 79})
	before, beforePicks := wide(m), slices.Clone(picks[:cap(picks)])
	got, err := graph.Waits(m, picks, 3)
	if err != api.OK || !slices.Equal(got, []int{1, -1, -1}) {
		t.Errorf("%v, %v", got, err)
	}
	if !reflect.DeepEqual(wide(m), before) || !slices.Equal(picks[:cap(picks)], beforePicks) {
		t.Errorf("%v and %v become %v and %v", before, beforePicks, wide(m), picks[:cap(picks)])
	}
}

// scribble writes into a list and its spare room.
func scribble[T any](l []T, x T) {
	for i := range l[:cap(l)] {
		l[:cap(l)][i] = x
	}
}

// TestZ2AnswersAreTheCallers: who changes one changes no other one, nor another list of the same one.
func TestZ2AnswersAreTheCallers(t *testing.T) {
	l, m := read(t, sample), sampleModule()
	e, _ := graph.Edges(l)
	scribble(e, api.Edge{Box: "odd"})
	order, left, _ := graph.Order(l)
	scribble(order, "odd")
	if !slices.Equal(left, []string{"c"}) {
		t.Errorf("left becomes %q with the order", left)
	}
	order, left, _ = graph.Order(l)
	scribble(left, "odd")
	if !slices.Equal(order, []string{"a", "b"}) {
		t.Errorf("the order becomes %q with left", order)
	}
	w, _ := graph.Waits(m, nil, 1)
	scribble(w, 77)
	wantEdgesOf(t, "again", l, edges("p a b q c c"))
	wantOrderOf(t, "again", l, []string{"a", "b"}, []string{"c"})
	wantWaits(t, "again", m, 1, -1, -1)
}

// TestZ2NothingIsKept: who handed something in may change it behind the call, names too.
func TestZ2NothingIsKept(t *testing.T) {
	l, b := read(t, sample), []byte("pqbca")
	name := func(at int) string { return unsafe.String(&b[at], 1) }
	l[0].Name, l[2].Name, l[3].Name, l[4].Name, l[5].Name = name(0), name(1), name(2), name(3), name(4)
	e, _ := graph.Edges(l)
	order, left, _ := graph.Order(l)
	copy(b, "vwxyz")
	scribble(l, api.Def{})
	if !slices.Equal(e, edges("p a b q c c")) || !slices.Equal(order, []string{"a", "b"}) || !slices.Equal(left, []string{"c"}) {
		t.Errorf("%v, %q and %q, when the names are others", e, order, left)
	}
}

// TestZ3Empty: lists without entries are as nil.
func TestZ3Empty(t *testing.T) {
	wantFault(t, "no definitions", []api.Def{}, api.ErrNone, 0)
	l := []api.Def{{Kind: api.DTask, Name: "t", Params: []api.Param{}, Body: []api.Stat{}}}
	wantEdgesOf(t, "an empty task", l, nil)
	wantOrderOf(t, "an empty task", l, []string{"t"}, nil)
	wantErr(t, "no units", api.Module{Boxes: []api.BoxInfo{}, Units: []api.Unit{}}, []api.Pick{}, 1, api.ErrNone)
	m := api.Module{Boxes: []api.BoxInfo{}, Units: []api.Unit{{Kind: api.DTask, Locals: []int{}, Code: code("end")}}}
	if got, err := graph.Waits(m, []api.Pick{}, 1); err != api.OK || !slices.Equal(got, []int{-1}) {
		t.Errorf("an empty task: %v, %v", got, err)
	}
}

// TestZ1SameAnswers: not by the order in which something is gone through, nor by what was asked ahead.
func TestZ1SameAnswers(t *testing.T) {
	for _, p := range made(t, 157, 300) {
		e, f := graph.Edges(p.defs)
		order, left, _ := graph.Order(p.defs)
		for range 5 {
			if f.Err != api.OK {
				wantFault(t, p.text, p.defs, f.Err, f.At)
				continue
			}
			wantOrderOf(t, p.text, p.defs, order, left)
			wantEdgesOf(t, p.text, p.defs, e)
		}
	}
}
