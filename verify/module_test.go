package verify_test

import (
	"math"
	"slices"
	"testing"

	"yieldshape/api"
)

func TestG1NothingIsWrong(t *testing.T) {
	wantGood(t, "one task", api.Module{Units: []api.Unit{task("end")}})
	wantGood(t, "empty lists", api.Module{Boxes: []api.BoxInfo{}, Units: []api.Unit{{Kind: api.DTask, Locals: []int{}, Code: code("end")}}})
	wantGood(t, "a box and a unit of each kind", around())
}

// TestG1Sizes: that there are too many is told ahead of all else, with Unit and At 0.
func TestG1Sizes(t *testing.T) {
	many := api.Where{Err: api.ErrMany}
	box, end := api.BoxInfo{Type: number, Cap: 1}, task("end")
	wantGood(t, "as many as may be", api.Module{Boxes: slices.Repeat([]api.BoxInfo{box}, api.MaxDefs), Units: slices.Repeat([]api.Unit{end}, api.MaxUnits)})
	wantWhere(t, "a box more", api.Module{Boxes: slices.Repeat([]api.BoxInfo{box}, api.MaxDefs+1), Units: []api.Unit{end}}, many)
	wantWhere(t, "a unit more", api.Module{Units: slices.Repeat([]api.Unit{end}, api.MaxUnits+1)}, many)
	wantWhere(t, "wrong boxes", api.Module{Boxes: make([]api.BoxInfo, api.MaxDefs+1)}, many)
	wantWhere(t, "wrong boxes, too many units", api.Module{Boxes: make([]api.BoxInfo, 1), Units: make([]api.Unit, api.MaxUnits+1)}, many)
	wantWhere(t, "a great many", api.Module{Boxes: make([]api.BoxInfo, 1<<20), Units: make([]api.Unit, 1<<20)}, many)
}

func TestG1Boxes(t *testing.T) {
	end := []api.Unit{task("end")}
	of := func(l ...api.BoxInfo) api.Module { return api.Module{Boxes: l, Units: end} }
	good := api.BoxInfo{Type: truth, Cap: 2}
	for _, n := range []int{number, truth} {
		wantGood(t, "plain", of(api.BoxInfo{Type: n, Cap: 1}, api.BoxInfo{Type: n, Cap: api.MaxCap}))
	}
	for _, n := range []int{0, 3, -1, api.Handle, api.Handle + 1, math.MinInt, math.MaxInt} {
		wantWhere(t, "not plain", of(good, api.BoxInfo{Type: n, Cap: 1}), api.Where{Err: api.ErrType, At: 1})
		wantWhere(t, "not plain, and no cap", of(api.BoxInfo{Type: n}), api.Where{Err: api.ErrType})
	}
	for _, n := range []int{0, -1, api.MaxCap + 1, math.MinInt, math.MaxInt} {
		wantWhere(t, "cap", of(good, good, api.BoxInfo{Type: number, Cap: n}), api.Where{Err: api.ErrRange, At: 2})
	}
	wantWhere(t, "two wrong boxes", of(api.BoxInfo{Type: number}, api.BoxInfo{}), api.Where{Err: api.ErrRange})
	wantWhere(t, "generators go into no box", api.Module{Boxes: []api.BoxInfo{{Type: api.Handle, Cap: 1}}, Units: around().Units}, api.Where{Err: api.ErrType})
}

func TestG1NoTask(t *testing.T) {
	none := api.Where{Err: api.ErrNone}
	wantWhere(t, "nothing", api.Module{}, none)
	wantWhere(t, "empty lists", api.Module{Boxes: []api.BoxInfo{}, Units: []api.Unit{}}, none)
	wantWhere(t, "a box", api.Module{Boxes: []api.BoxInfo{{Type: number, Cap: 1}}}, none)
	wantWhere(t, "no task", api.Module{Units: around().Units[:unitEnd]}, none)
}

// TestG1WhichIsTold: each thing is wrong together with all that is told behind it, which stands ahead of it in the module.
func TestG1WhichIsTold(t *testing.T) {
	m := around(
		task("push 1, send 0, end"), task("push 1, send 0, end"), // 5, 6
	)
	wantWhere(t, "two send", m, api.Where{Err: api.ErrFit, At: 0})
	m.Units = append(m.Units, task("drop, end")) // 7
	wantWhere(t, "flow", m, api.Where{Err: api.ErrStuck, Unit: 7})
	m.Units = append(m.Units, fn(number, "end")) // 8
	wantWhere(t, "the first unit's flow", m, api.Where{Err: api.ErrStuck, Unit: 7})
	none := api.Module{Units: []api.Unit{fn(number, "drop, end")}}
	wantWhere(t, "no task, and flow", none, api.Where{Err: api.ErrNone})
	none.Units = append(none.Units, fn(number, "push 1, truth 2"))
	wantWhere(t, "no task, and a form", none, api.Where{Err: api.ErrRange, Unit: 1, At: 1})
	m.Units = append(m.Units, task("end, truth 2")) // 9
	wantWhere(t, "a form", m, api.Where{Err: api.ErrRange, Unit: 9, At: 1})
	m.Units = append(m.Units, api.Unit{Kind: api.DBox}) // 10
	wantWhere(t, "a form ahead of the next head", m, api.Where{Err: api.ErrRange, Unit: 9, At: 1})
	m.Units[9] = task("end, truth 2", 3)
	wantWhere(t, "a head ahead of its forms", m, api.Where{Err: api.ErrType, Unit: 9})
	m.Units[9] = task("end")
	wantWhere(t, "the next head", m, api.Where{Err: api.ErrKind, Unit: 10})
	m.Boxes[1].Cap = 0
	wantWhere(t, "a box", m, api.Where{Err: api.ErrRange, At: 1})
	m.Units = append(m.Units, make([]api.Unit, api.MaxUnits)...)
	wantWhere(t, "too many", m, api.Where{Err: api.ErrMany})
}

func TestG1WhoseBoxes(t *testing.T) {
	m := around()
	both := []api.Unit{task("end"), task("end")}
	told := func(what string, want api.Where, units ...api.Unit) {
		t.Helper()
		wantWhere(t, what, api.Module{Boxes: m.Boxes, Units: units}, want)
	}
	good, at0, at1 := api.Where{}, api.Where{Err: api.ErrFit}, api.Where{Err: api.ErrFit, At: 1}
	const (
		send0, send1 = "push 1, send 0, end", "truth 1, send 1, end"
		recv0, recv1 = "recv 0, drop, end", "recv 1, drop, end"
	)
	told("one sends, another receives", good, task(send0), task(recv0))
	told("one does both, more than once", good, task("recv 0, send 0, recv 0, send 0, end"), task("end"))
	told("each has a box of his own", good, task(send0), task(send1))
	told("each way", good, task(send0), task(recv0), task(send1), task(recv1))
	told("two send", at0, task(send0), task("end"), task(send0))
	told("two receive", at1, task(recv1), task(recv1))
	told("two send, two receive", at1, task(send1), task("recv 1, send 1, end"), task(recv1))
	told("the first box", at0, task(send1), task(send1), task(recv0), task(recv0))
	told("three send", at0, append(both, task(send0), task(send0), task(send0))...)
	told("never reached", at0, task(send0), task("end, send 0"))
	told("never reached, twice", at1, task("end, recv 1"), task("end, jump 0, recv 1"))
}

// TestG1WhoComesToWhat: by what it calls or starts, however far off, reached or not.
func TestG1WhoComesToWhat(t *testing.T) {
	const (
		sends    = 0 // fn ( ) number: sends to box 0
		receives = 1 // gen ( ) takes number yields number: receives from box 0
		calls    = 2 // fn ( ) number: calls sends
		starts   = 3 // gen ( ) takes number yields number: starts receives, and calls circle
		circle   = 4 // fn ( ) number: calls back
		back     = 5 // fn ( ) number: calls circle, and itself; later calls
	)
	told := func(what string, err api.Errno, texts ...string) {
		t.Helper()
		m := around()
		m.Units = []api.Unit{
			fn(number, "push 1, send 0, push 1, ret"),
			gen(number, number, "recv 0, drop, end"),
			fn(number, "call 0, ret"),
			gen(number, number, "start 1, drop, end, call 4"),
			fn(number, "call 5, ret"),
			fn(number, "call 4, ret, call 5, call 2"),
		}
		for _, text := range texts {
			m.Units = append(m.Units, task(text))
		}
		wantWhere(t, what, m, api.Where{Err: err})
	}
	told("nobody comes to it", api.OK, "push 1, send 0, end", "recv 0, drop, end")
	told("one calls, one starts", api.OK, "call 0, drop, end", "start 1, drop, end")
	told("one comes to it by two ways", api.OK, "push 1, send 0, call 0, drop, call 2, drop, call 0, drop, end", "end")
	told("calls", api.ErrFit, "push 1, send 0, end", "call 0, drop, end")
	told("calls it both", api.ErrFit, "call 0, drop, end", "call 0, drop, end")
	told("starts", api.ErrFit, "recv 0, drop, end", "start 1, drop, end")
	told("calls who calls", api.ErrFit, "push 1, send 0, end", "call 2, drop, end")
	told("starts who starts", api.ErrFit, "start 3, drop, end", "start 1, drop, end")
	told("starts who calls, in a circle", api.ErrFit, "start 3, drop, end", "call 0, drop, end")
	told("in a circle", api.ErrFit, "call 4, drop, end", "push 1, send 0, end")
	told("in a circle, from the other end", api.ErrFit, "call 5, drop, end", "call 4, drop, end")
	told("in a circle, alone", api.OK, "call 5, drop, call 4, drop, start 3, drop, end", "end")
	told("calls behind its end", api.ErrFit, "call 0, drop, end", "end, call 2")
	told("starts behind its end", api.ErrFit, "start 1, drop, end", "end, start 3")
	told("who resumes comes to nothing by that", api.OK, "start 1, push 1, resume, out, end", "end, resume")
}

// TestG1FarOff: through as many units as there may be.
func TestG1FarOff(t *testing.T) {
	m := around()
	m.Units = []api.Unit{task("call 2, drop, end"), task("end, send 1")}
	for n := range api.MaxUnits - 3 {
		u := fn(number, "call 3, ret")
		u.Code[0].A += n
		m.Units = append(m.Units, u)
	}
	m.Units = append(m.Units, fn(number, "push 1, ret"))
	wantGood(t, "nobody sends there", m)
	m.Units[api.MaxUnits-1] = fn(number, "push 1, ret, send 1")
	wantWhere(t, "the last one sends", m, api.Where{Err: api.ErrFit, At: 1})
}
