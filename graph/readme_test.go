package graph_test

import (
	"testing"

	"yieldshape/gen"
)

// TestReadme: the examples of README.md.
func TestReadme(t *testing.T) {
	const text = "box b num 1; task c { while true { out recv(b); } } task a { send b 7; }"
	wantEdges(t, text, "b a c")
	wantOrder(t, text, "a c", "")
	module, _ := gen.Compile(read(t, text))
	wantWaits(t, text, module, 1, -1)
}
