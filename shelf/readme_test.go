package shelf_test

import (
	"testing"

	"yieldshape/api"
)

// TestReadme: the examples of README.md.
func TestReadme(t *testing.T) {
	wantReport(t, "double", feeds([]int64{7}), api.Report{State: api.Waiting, Out: []int64{14}, Sent: [][]int64{nil}, Took: []int{1}, Steps: 9})
	waits := api.End{State: api.Waiting}
	wantRest(t, "pingpong", api.World{
		Tasks: []api.End{{State: api.Done, Out: []int64{2, 4, 8, 16, 32, 64, 128}}, waits},
		Boxes: [][]int64{nil, nil}, Steps: 135,
	})
}
