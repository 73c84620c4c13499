package gen_test

import (
	"reflect"
	"slices"
	"testing"

	"yieldshape/api"
	"yieldshape/gen"
)

// roomy is a list with something behind it, in its spare room, each of its entries made by copy.
func roomy[T any](l []T, behind T, copied func(T) T) []T {
	out := make([]T, 0, len(l)+1)
	for _, x := range l {
		out = append(out, copied(x))
	}
	return append(out, behind)[:len(l)]
}

func roomyExpr(x api.Expr) api.Expr {
	x.Kids = roomy(x.Kids, api.Expr{Kind: api.EVar, Name: "odd"}, roomyExpr)
	return x
}

func roomyStat(s api.Stat) api.Stat {
	odd := api.Stat{Kind: api.SSet, Name: "odd"}
	s.X, s.Body, s.Else = roomyExpr(s.X), roomy(s.Body, odd, roomyStat), roomy(s.Else, odd, roomyStat)
	return s
}

func roomyDef(d api.Def) api.Def {
	d.Params = roomy(d.Params, api.Param{Name: "odd"}, func(p api.Param) api.Param { return p })
	d.Body = roomy(d.Body, api.Stat{Kind: api.SSet, Name: "odd"}, roomyStat)
	return d
}

// wide is a list with its spare room, all of it copied.
func wide[T any](l []T, copied func(T) T) []T {
	var out []T
	for _, x := range l[:cap(l)] {
		out = append(out, copied(x))
	}
	return out
}

func wideExpr(x api.Expr) api.Expr {
	x.Kids = wide(x.Kids, wideExpr)
	return x
}

func wideStat(s api.Stat) api.Stat {
	s.X, s.Body, s.Else = wideExpr(s.X), wide(s.Body, wideStat), wide(s.Else, wideStat)
	return s
}

func wideDef(d api.Def) api.Def {
	d.Params, d.Body = slices.Clone(d.Params[:cap(d.Params)]), wide(d.Body, wideStat)
	return d
}

// TestZ2ArgumentsAreOnlyRead: nor is the spare room behind them changed, or looked at.
func TestZ2ArgumentsAreOnlyRead(t *testing.T) {
	for _, p := range made(t, 27, 200) {
		l := roomy(p.defs, api.Def{Kind: api.DTask, Name: "odd"}, roomyDef)
		before := wide(l, wideDef)
		m, f := gen.Compile(l)
		if want := (&oracle{maker: p}).module(); f != (api.Fault{}) || !same(m, want) {
			t.Fatalf("with spare room behind: %v, %v; want %v", m, f, want)
		}
		if !reflect.DeepEqual(wide(l, wideDef), before) {
			t.Fatalf("%v becomes %v", before, wide(l, wideDef))
		}
	}
}

// scribble writes into a list and its spare room.
func scribble[T any](l []T, x T) {
	for i := range l[:cap(l)] {
		l[:cap(l)][i] = x
	}
}

// TestZ2AnswersAreTheCallers: each list of an answer is memory of its own, with its spare room.
func TestZ2AnswersAreTheCallers(t *testing.T) {
	for _, p := range made(t, 28, 200) {
		m, _ := gen.Compile(p.defs)
		want := full(m)
		for i := range m.Units {
			if got := full(m); !same(api.Module{Boxes: got.Boxes, Units: got.Units[i:]}, api.Module{Boxes: want.Boxes, Units: want.Units[i:]}) {
				t.Fatalf("%v changes when other lists do", want)
			}
			scribble(m.Units[i].Locals, 77)
			if got := full(m).Units[i].Code; !slices.Equal(got, want.Units[i].Code) {
				t.Fatalf("code %v becomes %v with the locals", want.Units[i].Code, got)
			}
			scribble(m.Units[i].Code, api.Instr{Op: 77, A: 77, N: 77})
		}
		scribble(m.Units, api.Unit{})
		if !slices.Equal(m.Boxes, want.Boxes) {
			t.Fatalf("boxes %v become %v with the units", want.Boxes, m.Boxes)
		}
		scribble(m.Boxes, api.BoxInfo{})
		if again, _ := gen.Compile(p.defs); !same(again, want) {
			t.Fatalf("%v the second time; want %v", again, want)
		}
	}
}

// TestZ2NothingIsKept: who handed a program in may change it behind the call.
func TestZ2NothingIsKept(t *testing.T) {
	for _, p := range made(t, 29, 200) {
		m, _ := gen.Compile(p.defs)
		want := full(m)
		for i := range p.defs {
			scribble(p.defs[i].Params, api.Param{})
			scribble(p.defs[i].Body, api.Stat{})
		}
		scribble(p.defs, api.Def{})
		if !same(m, want) {
			t.Fatalf("%v becomes %v", want, m)
		}
	}
}
