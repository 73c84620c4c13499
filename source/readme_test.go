package source_test

import "testing"

// TestReadme: the examples of README.md.
func TestReadme(t *testing.T) {
	wantWorld(t, "box b num 2; task t { send b (1 + 2) * 3; }", 6, in([]int64{9}), done())
}
