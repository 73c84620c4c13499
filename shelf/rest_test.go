package shelf_test

import (
	"testing"

	"yieldshape/api"
	"yieldshape/sched"
	"yieldshape/shelf"
	"yieldshape/source"
)

func rest(t *testing.T, name string) api.World {
	t.Helper()
	w, err := shelf.Rest(name)
	if err != api.OK {
		t.Fatalf("Rest(%q): %v", name, err)
	}
	return w
}

func wantRest(t *testing.T, name string, want api.World) {
	t.Helper()
	if w := rest(t, name); !sameWorlds(w, want) {
		t.Errorf("Rest(%q) = %+v; want %+v", name, w, want)
	}
}

// TestL1AtRest: all tasks run, and none of them is fed.
func TestL1AtRest(t *testing.T) {
	waits := api.End{State: api.Waiting}
	wantRest(t, "double", api.World{Tasks: []api.End{waits}, Boxes: [][]int64{nil}, Steps: 2})
	wantRest(t, "merge", api.World{Tasks: []api.End{waits}, Boxes: [][]int64{nil, nil}})
	wantRest(t, "pingpong", api.World{
		Tasks: []api.End{{State: api.Done, Out: []int64{2, 4, 8, 16, 32, 64, 128}}, waits},
		Boxes: [][]int64{nil, nil}, Steps: 135,
	})
	wantRest(t, "sieve", api.World{
		Tasks: []api.End{
			{State: api.Done}, {State: api.Waiting, Out: []int64{2}}, {State: api.Waiting, Box: 1, Out: []int64{3}},
			{State: api.Waiting, Box: 2, Out: []int64{5, 7, 11, 13, 17, 19, 23}},
		},
		Boxes: [][]int64{nil, nil, nil}, Steps: 854,
	})
}

// TestL1RestIsSettle: without picks, by turns of 100; and where programs as they stand come to rest, too.
func TestL1RestIsSettle(t *testing.T) {
	for _, name := range names {
		want, err := sched.Settle(module(t, name), nil, 100)
		if err != api.OK {
			t.Fatalf("%s: Settle: %v", name, err)
		}
		wantRest(t, name, want)
		played, f := source.Play(read(t, name))
		if f != (api.Fault{}) {
			t.Fatalf("%s: Play: %v", name, f)
		}
		played.Steps = want.Steps
		wantRest(t, name, played)
	}
}

// TestL1RestOfOneTask: it is that of a task by itself which is fed nothing.
func TestL1RestOfOneTask(t *testing.T) {
	for _, name := range names {
		w := rest(t, name)
		if len(w.Tasks) > 1 {
			continue
		}
		e := w.Tasks[0]
		want := api.Report{State: e.State, Box: e.Box, Trap: e.Trap, Out: e.Out, Sent: w.Boxes, Took: make([]int, len(w.Boxes)), Steps: w.Steps}
		wantReport(t, name, make([][]int64, len(w.Boxes)), want)
	}
}
