package asm_test

import (
	"math"
	"strconv"
	"strings"
	"testing"

	"yieldshape/api"
)

func TestM1Sample(t *testing.T) {
	wantBoth(t, sample(), sampleText)
	wantBoth(t, api.Module{}, "")
	wantBoth(t, api.Module{Boxes: []api.BoxInfo{{}}}, "box 0 0\n")
	wantBoth(t, ofUnits(task()), "task 0 0 0\n")
}

// lines are those of all instructions with A 5 and N -7, in the order of their kinds.
var lines = []string{
	"push -7", "truth 5", "load 5", "store 5", "drop", "neg", "not", "add", "sub", "mul", "div", "mod",
	"eq", "ne", "lt", "le", "gt", "ge", "and", "or", "jump 5", "else 5", "call 5", "ret", "end",
	"send 5", "recv 5", "out", "start 5", "resume", "yield", "alive",
}

// TestM1EachInstruction: the number that a line does not tell is 0, when it is read.
func TestM1EachInstruction(t *testing.T) {
	if len(lines) != api.OpAlive {
		t.Fatalf("there are %d lines", len(lines))
	}
	for i, line := range lines {
		op := i + 1
		text := "task 0 0 0\n\t" + line + "\n"
		wantText(t, ofUnits(task(api.Instr{Op: op, A: 5, N: -7})), text)
		want := api.Instr{Op: op}
		switch {
		case op == api.OpPush:
			want.N = -7
		case strings.HasSuffix(line, " 5"):
			want.A = 5
		}
		wantBoth(t, ofUnits(task(want)), text)
	}
}

// TestM1Numbers: in each place.
func TestM1Numbers(t *testing.T) {
	for _, c := range []struct {
		n    int64
		text string
	}{
		{0, "0"}, {1, "1"}, {-1, "-1"}, {9, "9"}, {10, "10"}, {-10, "-10"}, {100, "100"}, {1 << 32, "4294967296"},
		{math.MaxInt64, "9223372036854775807"}, {math.MinInt64, "-9223372036854775808"}, {-math.MaxInt64, "-9223372036854775807"},
	} {
		i := int(c.n)
		wantBoth(t, api.Module{Boxes: []api.BoxInfo{{Type: i, Cap: 3}}}, "box "+c.text+" 3\n")
		wantBoth(t, api.Module{Boxes: []api.BoxInfo{{Type: 3, Cap: i}}}, "box 3 "+c.text+"\n")
		wantBoth(t, ofUnits(api.Unit{Kind: api.DFn, Params: i, Result: 2, Takes: 3}), "fn "+c.text+" 2 3\n")
		wantBoth(t, ofUnits(api.Unit{Kind: api.DGen, Params: 1, Result: i, Takes: 3}), "gen 1 "+c.text+" 3\n")
		wantBoth(t, ofUnits(api.Unit{Kind: api.DTask, Params: 1, Result: 2, Takes: i}), "task 1 2 "+c.text+"\n")
		wantBoth(t, ofUnits(api.Unit{Kind: api.DFn, Locals: []int{i, 4, i}}), "fn 0 0 0 "+c.text+" 4 "+c.text+"\n")
		wantBoth(t, ofUnits(task(api.Instr{Op: api.OpPush, N: c.n})), "task 0 0 0\n\tpush "+c.text+"\n")
		wantBoth(t, ofUnits(task(api.Instr{Op: api.OpTruth, A: i})), "task 0 0 0\n\ttruth "+c.text+"\n")
	}
}

// noKinds are those that units have not: a box is none.
var noKinds = []int{0, 1, 5, -1, -2, -3, -4, 6, 18, 258, 1<<32 + 2, math.MaxInt64, math.MinInt64, math.MinInt64 + 1, math.MinInt64 + 2}

var noOps = []int{0, 33, -1, -32, 34, 257, 1<<32 + 1, math.MaxInt64, math.MinInt64, math.MinInt64 + 1}

func TestM2NoSuchKind(t *testing.T) {
	for _, kind := range noKinds {
		bad := api.Unit{Kind: kind, Locals: []int{1}, Code: []api.Instr{{Op: api.OpEnd}}}
		what := "kind " + strconv.Itoa(kind)
		wantNoText(t, what, ofUnits(bad), api.Where{Err: api.ErrKind})
		wantNoText(t, what, ofUnits(task(), task(), bad, task()), api.Where{Err: api.ErrKind, Unit: 2})
		bad.Code[0].Op = 0
		wantNoText(t, what+" with no such op", ofUnits(task(), bad), api.Where{Err: api.ErrKind, Unit: 1})
		wantNoText(t, what+" behind no such op", ofUnits(task(api.Instr{Op: 1}, api.Instr{}), bad), api.Where{Err: api.ErrKind, At: 1})
		wantNoText(t, what+" behind boxes", api.Module{Boxes: sample().Boxes, Units: []api.Unit{bad}}, api.Where{Err: api.ErrKind})
	}
}

func TestM2NoSuchOp(t *testing.T) {
	good := api.Instr{Op: api.OpEnd}
	for _, op := range noOps {
		bad := api.Instr{Op: op}
		what := "op " + strconv.Itoa(op)
		wantNoText(t, what, ofUnits(task(bad)), api.Where{Err: api.ErrKind})
		wantNoText(t, what, ofUnits(task(good, good, bad, bad, good)), api.Where{Err: api.ErrKind, At: 2})
		wantNoText(t, what, ofUnits(task(good), task(), task(good, bad), task(bad)), api.Where{Err: api.ErrKind, Unit: 2, At: 1})
	}
}

// box8 are boxes whose lines have eight bytes each.
func box8(n int) []api.BoxInfo { return make([]api.BoxInfo, n) }

// unitOf has a text of so many bytes, from 11 on: instructions of five bytes, and a last one that is longer.
func unitOf(bytes int) api.Unit {
	u := api.Unit{Kind: api.DTask}
	left := bytes - len("task 0 0 0\n")
	for left >= 15 || left == 10 || left == 5 {
		u.Code = append(u.Code, api.Instr{Op: api.OpEnd})
		left -= len("\tend\n")
	}
	if left == 0 {
		return u
	}
	// "\tload 0\n" and up to as many digits as are left.
	n := 1
	for range left - len("\tload 0\n") {
		n *= 10
	}
	u.Code = append(u.Code, api.Instr{Op: api.OpLoad, A: n})
	return u
}

// TestM2TextsAtTheBound are written with MaxListing bytes, and no more.
func TestM2TextsAtTheBound(t *testing.T) {
	if api.MaxListing != 60000 {
		t.Fatal("the bound is another one")
	}
	wantBoth(t, api.Module{Boxes: box8(7500)}, strings.Repeat("box 0 0\n", 7500))
	much := api.Where{Err: api.ErrMuch}
	wantNoText(t, "7501 boxes", api.Module{Boxes: box8(7501)}, much)
	longer := box8(7500)
	longer[7499].Cap = 10
	wantNoText(t, "a byte more in the last box", api.Module{Boxes: longer}, much)
	longer[7499].Cap = 0
	longer[0].Type = -1
	wantNoText(t, "a byte more in the first box", api.Module{Boxes: longer}, much)
	wantBoth(t, ofUnits(unitOf(60000)), textOf(ofUnits(unitOf(60000))))
	wantNoText(t, "a unit with a byte too much", ofUnits(unitOf(60001)), much)
	wantBoth(t, ofUnits(unitOf(30000), unitOf(30000)), textOf(ofUnits(unitOf(30000), unitOf(30000))))
	wantNoText(t, "two units with a byte too much", ofUnits(unitOf(30000), unitOf(30001)), much)
	boxed := api.Module{Boxes: box8(5), Units: []api.Unit{unitOf(100), unitOf(60000 - 140)}}
	wantBoth(t, boxed, textOf(boxed))
	boxed.Boxes = box8(6)
	wantNoText(t, "a box too many", boxed, much)
	wide := api.Unit{Kind: api.DFn, Locals: make([]int, 29995)}
	wantNoText(t, "locals with two bytes left", ofUnits(api.Unit{Kind: api.DFn, Locals: make([]int, 29996)}), much)
	wide.Takes = 10
	wantBoth(t, ofUnits(wide), "fn 0 0 10"+strings.Repeat(" 0", 29995)+"\n")
	wide.Takes = 100
	wantNoText(t, "locals with a byte too much", ofUnits(wide), much)
}

// TestM2TooMuchIsToldBehindItsUnit: and ahead of what is wrong further behind.
func TestM2TooMuchIsToldBehindItsUnit(t *testing.T) {
	much := api.Where{Err: api.ErrMuch}
	bad := api.Instr{Op: 33}
	wantNoText(t, "boxes, ahead of a kind", api.Module{Boxes: box8(7501), Units: []api.Unit{{}}}, much)
	wantNoText(t, "boxes within the bound, and a kind", api.Module{Boxes: box8(7500), Units: []api.Unit{{}}}, api.Where{Err: api.ErrKind})
	wantNoText(t, "boxes within the bound, and an op", api.Module{Boxes: box8(7500), Units: []api.Unit{task(bad)}}, api.Where{Err: api.ErrKind})
	wantNoText(t, "boxes within the bound, and a unit", api.Module{Boxes: box8(7500), Units: []api.Unit{task(), {}}}, much)
	long := unitOf(60001)
	wantNoText(t, "a unit, ahead of a kind", ofUnits(long, api.Unit{}), much)
	wantNoText(t, "a unit, ahead of an op", ofUnits(task(), long, task(bad)), much)
	wantNoText(t, "a unit behind a kind", ofUnits(api.Unit{}, long), api.Where{Err: api.ErrKind})
	wantNoText(t, "a unit within the bound, ahead of a kind", ofUnits(unitOf(60000), api.Unit{}), api.Where{Err: api.ErrKind, Unit: 1})
	spoilt := unitOf(70000)
	spoilt.Code = append(spoilt.Code, bad, bad)
	wantNoText(t, "a unit with an op behind the bound", ofUnits(task(), spoilt), api.Where{Err: api.ErrKind, Unit: 1, At: len(spoilt.Code) - 2})
	wantNoText(t, "an op behind many locals", ofUnits(task(), api.Unit{Kind: api.DGen, Locals: make([]int, 40000), Code: []api.Instr{{Op: 1}, bad}}), api.Where{Err: api.ErrKind, Unit: 1, At: 1})
	wantNoText(t, "many locals, of no kind", ofUnits(task(), api.Unit{Locals: make([]int, 40000)}), api.Where{Err: api.ErrKind, Unit: 1})
}
