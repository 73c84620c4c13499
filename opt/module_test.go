package opt_test

import (
	"math"
	"math/rand"
	"slices"
	"testing"

	"yieldshape/api"
	"yieldshape/verify"
)

// TestN1WhatVerifySays is told, and nothing beside it.
func TestN1WhatVerifySays(t *testing.T) {
	one := func(text string) api.Module { return api.Module{Units: []api.Unit{task(code(text))}} }
	wantWhere(t, "nothing", api.Module{}, api.Where{Err: api.ErrNone})
	wantWhere(t, "no task", api.Module{Units: around(code("end")).Units[1:]}, api.Where{Err: api.ErrNone})
	wantWhere(t, "nothing to put out", one("out, end"), api.Where{Err: api.ErrStuck})
	wantWhere(t, "a truth is added", one("push 1, truth 1, add, out, end"), api.Where{Err: api.ErrType, At: 2})
	wantWhere(t, "nothing follows", one("push 1, drop"), api.Where{Err: api.ErrRange, At: 1})
	wantWhere(t, "a jump to nowhere", one("end, jump 2"), api.Where{Err: api.ErrRange, At: 1})
	wantWhere(t, "a jump below", one("end, jump -1"), api.Where{Err: api.ErrRange, At: 1})
	wantWhere(t, "a truth that is none", one("end, truth 2, drop, end"), api.Where{Err: api.ErrRange, At: 1})
	// What would be gone is looked at, too.
	wantWhere(t, "a local without something", one("load 0, drop, end"), api.Where{Err: api.ErrState})
	wantWhere(t, "behind a jump that is never taken", one("truth 1, else 3, end, out, end"), api.Where{Err: api.ErrStuck, At: 3})
	m := around(code("end"))
	m.Units = append(m.Units, task(code("push 1, not, out, end")))
	wantWhere(t, "the last unit", m, api.Where{Err: api.ErrType, Unit: 3, At: 1})
	m = around(code("end"))
	m.Boxes[1].Cap = 0
	wantWhere(t, "a box without places", m, api.Where{Err: api.ErrRange, At: 1})
	m = around(code("recv 0, out, end"))
	m.Units = append(m.Units, task(code("end, recv 0")))
	wantWhere(t, "two who receive", m, api.Where{Err: api.ErrFit})
	m = around(code("end"))
	m.Units = slices.Repeat(m.Units[:1], api.MaxUnits+1)
	wantWhere(t, "too many units", m, api.Where{Err: api.ErrMany})
	wantWhere(t, "too much code", one(repeated("end", api.MaxCode+1)), api.Where{Err: api.ErrMany})
	wantWhere(t, "an op that is none", api.Module{Units: []api.Unit{task([]api.Instr{{Op: api.OpEnd}, {Op: 33}})}}, api.Where{Err: api.ErrKind, At: 1})
}

// TestN1RandomWrongs: whatever stands in code, what Verify says is told.
func TestN1RandomWrongs(t *testing.T) {
	k := maker{rand.New(rand.NewSource(9))}
	odd := []int{math.MinInt, -1, 0, 1, 2, 5, 9, 33, 40, math.MaxInt}
	count := map[api.Errno]int{}
	for range 20000 {
		m := around(k.sense(6 + k.Intn(20)))
		c := &m.Units[0].Code[k.Intn(len(m.Units[0].Code))]
		switch k.Intn(3) {
		case 0:
			c.A = odd[k.Intn(len(odd))]
		case 1:
			c.Op = odd[k.Intn(len(odd))]
		default:
			c.Op = 1 + k.Intn(32)
		}
		if w := verify.Verify(m); w.Err != api.OK {
			count[w.Err]++
			wantWhere(t, "something odd", m, w)
		} else {
			shorter(t, m)
		}
	}
	for _, err := range []api.Errno{api.ErrKind, api.ErrRange, api.ErrFit, api.ErrType, api.ErrState, api.ErrStuck} {
		if count[err] < 50 {
			t.Errorf("%v is told %d times: that tells too little", err, count[err])
		}
	}
}

// TestN1EachUnit is made shorter, of whichever kind, and for itself; all else stays as it is.
func TestN1EachUnit(t *testing.T) {
	m := api.Module{
		Boxes: []api.BoxInfo{{Type: number, Cap: 20}, {Type: truth, Cap: 1}},
		Units: []api.Unit{
			{Kind: api.DGen, Params: 2, Locals: []int{truth, number, api.Handle, api.Handle + 3}, Result: number, Takes: truth, Code: code("push 1, neg, yield, else 0, end")},
			{Kind: api.DFn, Params: 1, Locals: []int{api.Handle}, Result: truth, Takes: 78, Code: code("truth 1, else 4, truth 1, ret, truth 0, not, ret")},
			{Kind: api.DTask, Locals: []int{truth}, Result: 79, Takes: -80, Code: code("jump 1, end")},
			{Kind: api.DGen, Result: truth, Takes: number, Code: code("truth 0, drop, end")},
			{Kind: api.DTask, Code: code("push 1, push 2, add, send 0, end")},
			{Kind: api.DTask, Code: code("end")},
		},
	}
	want := full(m)
	want.Units[0].Code = code("push -1, yield, else 0, end")
	want.Units[1].Code = code("truth 1, ret, truth 1, ret")
	want.Units[2].Code = code("end")
	want.Units[3].Code = code("end")
	want.Units[4].Code = code("push 3, send 0, end")
	wantModule(t, "one of each kind", m, want)
	wantModule(t, "once more", want, want)
}
