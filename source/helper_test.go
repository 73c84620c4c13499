package source_test

import (
	"reflect"
	"testing"

	"yieldshape/api"
	"yieldshape/source"
	"yieldshape/syn"
)

func fault(err api.Errno, at int) api.Fault { return api.Fault{Err: err, At: at} }

func read(t *testing.T, text string) []api.Def {
	t.Helper()
	l, f := syn.Read(text)
	if f.Err != api.OK {
		t.Fatalf("Read(%q): %v", text, f)
	}
	return l
}

// full is w with lists that are not nil, so that worlds may be held against each other (Z3).
func full(w api.World) api.World {
	out := api.World{Tasks: []api.End{}, Boxes: [][]int64{}, Steps: w.Steps}
	for _, e := range w.Tasks {
		e.Out = append([]int64{}, e.Out...)
		out.Tasks = append(out.Tasks, e)
	}
	for _, l := range w.Boxes {
		out.Boxes = append(out.Boxes, append([]int64{}, l...))
	}
	return out
}

func same(a, b api.World) bool { return reflect.DeepEqual(full(a), full(b)) }

// ends are those of all tasks.
func ends(l ...api.End) []api.End { return l }

func done(out ...int64) api.End { return api.End{State: api.Done, Out: out} }

func sending(box int, out ...int64) api.End {
	return api.End{State: api.Sending, Box: box, Out: out}
}

func waiting(box int, out ...int64) api.End {
	return api.End{State: api.Waiting, Box: box, Out: out}
}

func trapped(by int, out ...int64) api.End {
	return api.End{State: api.Trapped, Trap: by, Out: out}
}

// in are the words of all boxes.
func in(l ...[]int64) [][]int64 { return l }

func wantWorldOf(t *testing.T, what string, l []api.Def, want api.World) {
	t.Helper()
	if w, f := source.Play(l); f != (api.Fault{}) || !same(w, want) {
		t.Errorf("%.600s: Play = %+v, %v; want %+v", what, w, f, want)
	}
}

func wantWorld(t *testing.T, text string, steps int, boxes [][]int64, tasks ...api.End) {
	t.Helper()
	wantWorldOf(t, text, read(t, text), api.World{Tasks: tasks, Boxes: boxes, Steps: steps})
}

// wantFaultOf: beside it every other result is zero (Z4).
func wantFaultOf(t *testing.T, what string, l []api.Def, want api.Fault) {
	t.Helper()
	if w, f := source.Play(l); f != want || !reflect.DeepEqual(w, api.World{}) {
		t.Errorf("%.600s: Play = %+v, %v; want nothing beside %v", what, w, f, want)
	}
}

func wantFault(t *testing.T, text string, want api.Fault) {
	t.Helper()
	wantFaultOf(t, text, read(t, text), want)
}

// play answers the world of a program that comes to rest.
func play(t *testing.T, text string) api.World {
	t.Helper()
	w, f := source.Play(read(t, text))
	if f != (api.Fault{}) {
		t.Fatalf("%.600s: Play: %v", text, f)
	}
	return w
}

// wantEnd: the first task stands so in the end, after however many nodes.
func wantEnd(t *testing.T, text string, want api.End) {
	t.Helper()
	w := play(t, text)
	if !same(api.World{Tasks: w.Tasks[:1]}, api.World{Tasks: ends(want)}) {
		t.Errorf("%.600s: %+v; want %+v", text, w.Tasks[0], want)
	}
}

// wantSteps: so many nodes are come to.
func wantSteps(t *testing.T, text string, want int) {
	t.Helper()
	if w := play(t, text); w.Steps != want {
		t.Errorf("%.600s: %d nodes; want %d", text, w.Steps, want)
	}
}
