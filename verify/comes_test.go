package verify_test

import (
	"slices"
	"testing"

	"yieldshape/api"
	"yieldshape/verify"
)

// TestG1Comes: a unit comes to its own code, and to that of all units it calls or starts, each once, reached or not.
func TestG1Comes(t *testing.T) {
	instr := func(l ...int) []api.Instr {
		var out []api.Instr
		for c := range slices.Chunk(l, 2) {
			out = append(out, api.Instr{Op: c[0], A: c[1]})
		}
		return out
	}
	m := api.Module{Units: []api.Unit{
		{Kind: api.DTask, Code: instr(api.OpSend, 1, api.OpCall, 1, api.OpEnd, 9, api.OpRecv, 2, api.OpCall, 1)},
		{Kind: api.DFn, Code: instr(api.OpRecv, 3, api.OpRet, 0, api.OpStart, 2, api.OpCall, 1)},
		{Kind: api.DGen, Code: instr(api.OpCall, 1, api.OpStart, 2, api.OpSend, 1, api.OpSend, 4)},
		{Kind: api.DTask, Code: instr(api.OpRecv, 5)},
	}}
	for unit, want := range [][]api.Instr{
		instr(api.OpSend, 1, api.OpRecv, 2, api.OpRecv, 3, api.OpSend, 1, api.OpSend, 4),
		instr(api.OpRecv, 3, api.OpSend, 1, api.OpSend, 4),
		instr(api.OpSend, 1, api.OpSend, 4, api.OpRecv, 3),
		instr(api.OpRecv, 5),
	} {
		var got []api.Instr
		verify.Comes(m, unit, func(op, box int) { got = append(got, api.Instr{Op: op, A: box}) })
		if !slices.Equal(got, want) {
			t.Errorf("unit %d comes to %v; want %v", unit, got, want)
		}
	}
}
