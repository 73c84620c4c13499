package sched_test

import (
	"testing"

	"yieldshape/api"
)

// TestReadme: the examples of README.md.
func TestReadme(t *testing.T) {
	m := compiled(t, "box b num 2; task t { send b (1 + 2) * 3; }")
	want := api.World{Tasks: quiet(api.Ready, 0), Boxes: [][]int64{nil}, Steps: 2}
	wantRun(t, "run", m, picks(0, 2, 1, 2), want, []api.Did{{Steps: 2}, {Err: api.ErrRange}})
	wantSettle(t, "settle", m, nil, 100, api.World{Tasks: quiet(api.Done, 0), Boxes: [][]int64{{9}}, Steps: 7})
	wantTrace(t, "trace", m, picks(0, 100), sent(0, 0, 9), done(0))
}
