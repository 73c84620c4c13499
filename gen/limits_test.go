package gen

import (
	"testing"

	"yieldshape/api"
)

// TestH1TooGreat: no program that Check lets through has as much code as this; so the bound is asked here.
func TestH1TooGreat(t *testing.T) {
	for _, c := range []struct {
		locals, code int
		want         bool
	}{
		{0, 1, false},
		{api.MaxLocals, api.MaxCode, false},
		{api.MaxLocals + 1, 1, true},
		{0, api.MaxCode + 1, true},
		{api.MaxLocals + 1, api.MaxCode + 1, true},
	} {
		u := api.Unit{Kind: api.DTask, Locals: make([]int, c.locals), Code: make([]api.Instr, c.code)}
		if got := tooGreat(u); got != c.want {
			t.Errorf("%d locals, %d instructions: %v; want %v", c.locals, c.code, got, c.want)
		}
	}
}
