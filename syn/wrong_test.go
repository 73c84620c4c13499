package syn_test

import (
	"math"
	"slices"
	"testing"

	"yieldshape/api"
)

// box, fn and gen have nothing wrong with them.
func box() api.Def { return api.Def{Kind: api.DBox, Name: "b", Type: typeNum, Cap: 1} }

func fn(body ...api.Stat) api.Def {
	return api.Def{Kind: api.DFn, Name: "f", Type: typeNum, Body: body}
}

func gen(body ...api.Stat) api.Def {
	return api.Def{Kind: api.DGen, Name: "g", Type: typeNum, Takes: typeBool, Body: body}
}

func with(d api.Def, change func(*api.Def)) api.Def {
	change(&d)
	return d
}

// wantWrongDef: what is wrong is told at the definition's number, wherever it stands; if nothing is, what is wrong behind it is told.
func wantWrongDef(t *testing.T, d api.Def, want api.Errno) {
	t.Helper()
	behind := []api.Def{box(), task(), d, {}}
	if want == api.OK {
		wantWrong(t, []api.Def{d}, api.Fault{})
		wantWrong(t, behind, fault(api.ErrKind, 3))
		return
	}
	wantWrong(t, []api.Def{d}, fault(want, 0))
	wantWrong(t, behind, fault(want, 2))
}

func wantWrongExpr(t *testing.T, x api.Expr, want api.Errno) {
	t.Helper()
	wantWrongDef(t, task(out(x)), want)
	wantWrongDef(t, gen(api.Stat{Kind: api.SIf, X: num(1), Else: []api.Stat{{Kind: api.SSend, Name: "b", X: node(api.ENot, x)}}}), want)
}

var noNames = []string{"", "if", "num", "A", "1", "a b", " a", "a#", "abcdefghijklm", "a\x00", "é"}

func TestB4NothingIsWrong(t *testing.T) {
	wantWrong(t, nil, api.Fault{})
	wantWrong(t, []api.Def{}, api.Fault{})
	wantWrong(t, []api.Def{box(), fn(), gen(), task()}, api.Fault{})
	m := newMaker(3)
	for range 500 {
		wantWrong(t, m.program(), api.Fault{})
	}
}

func TestB4ManyDefinitions(t *testing.T) {
	wantWrong(t, slices.Repeat([]api.Def{box()}, api.MaxDefs), api.Fault{})
	wantWrong(t, slices.Repeat([]api.Def{box()}, api.MaxDefs+1), fault(api.ErrMany, 0))
	wantWrong(t, make([]api.Def, api.MaxDefs), fault(api.ErrKind, 0))
	wantWrong(t, make([]api.Def, api.MaxDefs+1), fault(api.ErrMany, 0))
}

func TestB4AtItsNumber(t *testing.T) {
	l := slices.Repeat([]api.Def{task(out(num(1)))}, api.MaxDefs)
	for i := range l {
		one := slices.Clone(l)
		one[i].Name = ""
		wantWrong(t, one, fault(api.ErrName, i))
		one[api.MaxDefs-1].Kind = 9
		if i < api.MaxDefs-1 {
			wantWrong(t, one, fault(api.ErrName, i))
		}
	}
}

func TestB4Definitions(t *testing.T) {
	for _, kind := range []int{0, -1, 5, 6, math.MinInt, math.MaxInt} {
		wantWrongDef(t, with(box(), func(d *api.Def) { d.Kind = kind }), api.ErrKind)
	}
	for _, d := range []api.Def{box(), fn(), gen(), task()} {
		wantWrongDef(t, d, api.OK)
		for _, name := range noNames {
			wantWrongDef(t, with(d, func(d *api.Def) { d.Name = name }), api.ErrName)
		}
		wantWrongDef(t, with(d, func(d *api.Def) { d.Name = "abcdefghijkl" }), api.OK)
	}
	for _, places := range []int{0, -1, api.MaxCap + 1, math.MinInt, math.MaxInt} {
		wantWrongDef(t, with(box(), func(d *api.Def) { d.Cap = places }), api.ErrRange)
	}
	wantWrongDef(t, with(box(), func(d *api.Def) { d.Cap = api.MaxCap }), api.OK)
}

func TestB4Types(t *testing.T) {
	set := []func(*api.Def, api.Type){
		func(d *api.Def, y api.Type) { d.Type = y },
		func(d *api.Def, y api.Type) { d.Takes = y },
		func(d *api.Def, y api.Type) { d.Params = []api.Param{{Name: "a", Type: typeNum}, {Name: "a", Type: y}} },
	}
	for n, d := range []api.Def{box(), fn(), gen(), task()} {
		for at, change := range set {
			has := [][]bool{{true, false, false}, {true, false, true}, {true, true, true}, {false, false, false}}[n][at]
			try := func(y api.Type, want api.Errno) {
				if !has {
					want = api.OK
				}
				wantWrongDef(t, with(d, func(d *api.Def) { change(d, y) }), want)
			}
			for _, kind := range []int{0, -1, 4, math.MaxInt} {
				try(api.Type{Kind: kind, Gen: "g"}, api.ErrKind)
			}
			for _, name := range noNames {
				try(typeGen(name), api.ErrName)
				try(api.Type{Kind: api.TyNum, Gen: name}, api.OK)
				try(api.Type{Kind: api.TyBool, Gen: name}, api.OK)
			}
			try(typeGen("g"), api.OK)
		}
	}
}

func TestB4Params(t *testing.T) {
	good := api.Param{Name: "a", Type: typeNum}
	for _, d := range []api.Def{fn(), gen()} {
		d.Params = slices.Repeat([]api.Param{good}, api.MaxArgs)
		wantWrongDef(t, d, api.OK)
		d.Params = slices.Repeat([]api.Param{good}, api.MaxArgs+1)
		wantWrongDef(t, d, api.ErrMany)
		d.Params = make([]api.Param, api.MaxArgs+1)
		wantWrongDef(t, d, api.ErrMany)
		d.Params = []api.Param{good, {Name: "1", Type: typeNum}}
		wantWrongDef(t, d, api.ErrName)
		d.Params = []api.Param{good, {Name: "1"}}
		wantWrongDef(t, d, api.ErrName)
		d.Params = []api.Param{{Name: "a"}, {}}
		wantWrongDef(t, d, api.ErrKind)
	}
	for _, d := range []api.Def{box(), task()} {
		d.Params = make([]api.Param, api.MaxArgs+1)
		wantWrongDef(t, d, api.OK)
	}
}

// TestB4OrderInADefinition: each thing is wrong together with all that comes behind it.
func TestB4OrderInADefinition(t *testing.T) {
	bad := api.Def{Kind: api.DGen, Name: "", Params: make([]api.Param, 7), Takes: api.Type{}, Type: typeGen(""), Body: make([]api.Stat, 51)}
	wantWrongDef(t, with(bad, func(d *api.Def) { d.Kind = 0 }), api.ErrKind)
	wantWrongDef(t, bad, api.ErrName)
	bad.Name = "g"
	wantWrongDef(t, bad, api.ErrMany)
	bad.Params = []api.Param{{Name: "", Type: api.Type{}}}
	wantWrongDef(t, bad, api.ErrName)
	bad.Params = []api.Param{{Name: "a", Type: api.Type{}}, {}}
	wantWrongDef(t, bad, api.ErrKind)
	bad.Params = nil
	wantWrongDef(t, bad, api.ErrKind)
	bad.Takes = typeNum
	wantWrongDef(t, bad, api.ErrName)
	bad.Type = typeNum
	wantWrongDef(t, bad, api.ErrMany)
	bad.Body = make([]api.Stat, 50)
	wantWrongDef(t, bad, api.ErrKind)
	wantWrongDef(t, api.Def{Kind: api.DBox, Name: "b", Type: typeGen(""), Cap: 0}, api.ErrName)
	wantWrongDef(t, api.Def{Kind: api.DBox, Name: "", Type: api.Type{}, Cap: 0}, api.ErrName)
	wantWrongDef(t, api.Def{Kind: api.DBox, Name: "b", Cap: 0}, api.ErrKind)
}

func TestB4Bodies(t *testing.T) {
	stop := api.Stat{Kind: api.SStop}
	full := slices.Repeat([]api.Stat{stop}, api.MaxBody)
	over := slices.Repeat([]api.Stat{stop}, api.MaxBody+1)
	for _, d := range []func(...api.Stat) api.Def{fn, gen, task} {
		for _, body := range [][]api.Stat{full, over} {
			want := api.OK
			if len(body) > api.MaxBody {
				want = api.ErrMany
			}
			wantWrongDef(t, d(body...), want)
			wantWrongDef(t, d(stop, api.Stat{Kind: api.SWhile, X: num(1), Body: body}), want)
			wantWrongDef(t, d(stop, api.Stat{Kind: api.SIf, X: num(1), Body: body}), want)
			wantWrongDef(t, d(stop, api.Stat{Kind: api.SIf, X: num(1), Else: body}), want)
			wantWrongDef(t, d(stop, api.Stat{Kind: api.SIf, X: num(1), Body: body, Else: body}), want)
		}
	}
	wantWrongDef(t, task(make([]api.Stat, api.MaxBody+1)...), api.ErrMany)
	wantWrongDef(t, with(box(), func(d *api.Def) { d.Body = over }), api.OK)
}

func TestB4Statements(t *testing.T) {
	bad := api.Expr{}
	for _, kind := range []int{0, -1, 10, math.MaxInt, math.MinInt} {
		wantWrongDef(t, task(api.Stat{Kind: kind, Name: "a", X: num(1)}), api.ErrKind)
	}
	for kind := api.SLet; kind <= api.SDo; kind++ {
		s := api.Stat{Kind: kind, Name: "a", X: num(1)}
		wantWrongDef(t, task(s), api.OK)
		for _, name := range noNames {
			s.Name = name
			want := api.OK
			if kind == api.SLet || kind == api.SSet || kind == api.SSend {
				want = api.ErrName
			}
			wantWrongDef(t, task(s), want)
		}
		s.Name, s.X = "a", bad
		want := api.ErrKind
		if kind == api.SStop {
			want = api.OK
		}
		wantWrongDef(t, task(s), want)
		wantWrongDef(t, task(out(num(1)), s), want)
		s.X, s.Body = num(1), []api.Stat{{Kind: api.SLet}}
		want = api.OK
		if kind == api.SIf || kind == api.SWhile {
			want = api.ErrName
		}
		wantWrongDef(t, task(s), want)
		s.Body, s.Else = nil, []api.Stat{{Kind: api.SLet}}
		if kind != api.SIf {
			want = api.OK
		}
		wantWrongDef(t, task(s), want)
	}
}

func TestB4OrderInAStatement(t *testing.T) {
	over := make([]api.Stat, api.MaxBody+1)
	wantWrongDef(t, task(api.Stat{Kind: 10, Name: "", X: num(-1)}), api.ErrKind)
	wantWrongDef(t, task(api.Stat{Kind: api.SLet, Name: "", X: num(-1)}), api.ErrName)
	wantWrongDef(t, task(api.Stat{Kind: api.SIf, X: num(-1), Body: over, Else: make([]api.Stat, 1)}), api.ErrRange)
	wantWrongDef(t, task(api.Stat{Kind: api.SIf, X: num(1), Body: over, Else: make([]api.Stat, 1)}), api.ErrMany)
	wantWrongDef(t, task(api.Stat{Kind: api.SIf, X: num(1), Body: make([]api.Stat, 1), Else: over}), api.ErrKind)
	wantWrongDef(t, task(api.Stat{Kind: api.SOut, X: num(-1)}, api.Stat{Kind: 10}), api.ErrRange)
	wantWrongDef(t, task(api.Stat{Kind: 10}, api.Stat{Kind: api.SOut, X: num(-1)}), api.ErrKind)
}

func TestB4Numbers(t *testing.T) {
	for _, n := range []int64{0, 1, 999999999999999} {
		wantWrongExpr(t, num(n), api.OK)
	}
	for _, n := range []int64{-1, 1000000000000000, math.MaxInt64, math.MinInt64} {
		wantWrongExpr(t, num(n), api.ErrRange)
	}
	wantWrongExpr(t, boolean(0), api.OK)
	wantWrongExpr(t, boolean(1), api.OK)
	for _, n := range []int64{-1, 2, math.MaxInt64, math.MinInt64} {
		wantWrongExpr(t, boolean(n), api.ErrRange)
	}
}

// kidsOf is how many kids each kind has, at least and at most.
func kidsOf(kind int) (int, int) {
	switch {
	case kind <= api.EVar || kind == api.ERecv:
		return 0, 0
	case kind == api.ENeg || kind == api.ENot || kind == api.EYield || kind == api.EAlive:
		return 1, 1
	case kind == api.ECall || kind == api.EStart:
		return 0, 6
	}
	return 2, 2
}

func TestB4Expressions(t *testing.T) {
	for _, kind := range []int{0, -1, 25, 26, math.MaxInt, math.MinInt} {
		wantWrongExpr(t, named(kind, "a", num(1)), api.ErrKind)
	}
	for kind := api.ENum; kind <= api.EAlive; kind++ {
		least, most := kidsOf(kind)
		for n := range 10 {
			x := named(kind, "a", slices.Repeat([]api.Expr{num(1)}, n)...)
			want := api.OK
			if n < least || n > most {
				want = api.ErrMany
			}
			wantWrongExpr(t, x, want)
		}
		kids := slices.Repeat([]api.Expr{num(1)}, most)
		for _, name := range noNames {
			want := api.OK
			if kind == api.EVar || kind == api.ECall || kind == api.ERecv || kind == api.EStart {
				want = api.ErrName
			}
			wantWrongExpr(t, named(kind, name, kids...), want)
		}
		for i := range kids {
			bad := slices.Clone(kids)
			bad[i] = num(-1)
			wantWrongExpr(t, named(kind, "a", bad...), api.ErrRange)
		}
		x := named(kind, "a", kids...)
		x.N = -1
		if kind > api.EBool {
			wantWrongExpr(t, x, api.OK)
		}
	}
}

func TestB4OrderInAnExpression(t *testing.T) {
	wantWrongExpr(t, api.Expr{Kind: 25, N: -1, Kids: []api.Expr{num(-1)}}, api.ErrKind)
	wantWrongExpr(t, api.Expr{Kind: api.ENum, N: -1, Kids: []api.Expr{{}}}, api.ErrRange)
	wantWrongExpr(t, api.Expr{Kind: api.EBool, N: 2, Kids: []api.Expr{{}}}, api.ErrRange)
	wantWrongExpr(t, api.Expr{Kind: api.EVar, Kids: []api.Expr{{}}}, api.ErrName)
	wantWrongExpr(t, api.Expr{Kind: api.ECall, Kids: make([]api.Expr, 7)}, api.ErrName)
	wantWrongExpr(t, api.Expr{Kind: api.ECall, Name: "f", Kids: make([]api.Expr, 7)}, api.ErrMany)
	wantWrongExpr(t, node(api.EAdd, variable(""), num(-1)), api.ErrName)
	wantWrongExpr(t, node(api.EAdd, node(api.EAdd, num(1), node(api.ENot, num(-1))), variable("")), api.ErrRange)
}

// nested is x with so many signs ahead.
func nested(n int, x api.Expr) api.Expr {
	for range n {
		x = node(api.ENeg, x)
	}
	return x
}

func TestB4Shape(t *testing.T) {
	most := api.MaxShape - 3 // a definition, a statement and what stands inside are there too
	wantWrongDef(t, task(out(nested(most, num(1)))), api.OK)
	wantWrongDef(t, task(out(nested(most+1, num(1)))), api.ErrMuch)
	wantWrongDef(t, task(out(nested(most+1, api.Expr{}))), api.ErrMuch)
	wantWrongDef(t, task(out(nested(most, api.Expr{}))), api.ErrKind)
	for _, kind := range []int{api.SIf, api.SWhile} {
		for _, inElse := range []bool{false, true} {
			s := api.Stat{Kind: api.SStop}
			for range api.MaxShape - 2 {
				around := api.Stat{Kind: kind, X: num(1), Body: []api.Stat{s}}
				if inElse && kind == api.SIf {
					around.Body, around.Else = nil, []api.Stat{s}
				}
				s = around
			}
			wantWrongDef(t, task(s), api.OK)
			wantWrongDef(t, task(api.Stat{Kind: api.SWhile, X: num(1), Body: []api.Stat{s}}), api.ErrMuch)
		}
	}
	inner := api.Stat{Kind: api.SWhile, X: nested(most-1, num(1)), Body: []api.Stat{out(nested(most-1, num(1)))}}
	wantWrongDef(t, task(inner), api.OK)
	inner.Body = []api.Stat{out(nested(most, num(1)))}
	wantWrongDef(t, task(inner), api.ErrMuch)
}

// defsOf is a program of so many nodes.
func defsOf(nodes int) []api.Def {
	var l []api.Def
	for nodes > 0 {
		d := task()
		nodes--
		for i := 0; i < api.MaxBody && nodes > 1; i++ {
			n := min(nodes, api.MaxShape-1)
			d.Body = append(d.Body, out(nested(n-2, num(1))))
			nodes -= n
		}
		l = append(l, d)
	}
	return l
}

func TestB4Nodes(t *testing.T) {
	most := defsOf(api.MaxNodes)
	if n := countNodes(most); n != api.MaxNodes {
		t.Fatalf("%d nodes", n)
	}
	wantWrong(t, most, api.Fault{})
	last := len(most)
	wantWrong(t, append(slices.Clone(most), box()), fault(api.ErrMuch, last))
	wantWrong(t, append(slices.Clone(most), api.Def{}), fault(api.ErrMuch, last))
	wantWrong(t, defsOf(api.MaxNodes+1), fault(api.ErrMuch, last-1))
	less := defsOf(api.MaxNodes - 1)
	wantWrong(t, append(slices.Clone(less), api.Def{}), fault(api.ErrKind, last))
	wantWrong(t, append(slices.Clone(less), task(api.Stat{})), fault(api.ErrMuch, last))
	wantWrong(t, append(slices.Clone(less), api.Def{Kind: api.DTask, Body: make([]api.Stat, 1)}), fault(api.ErrName, last))
	wantWrong(t, append(slices.Clone(less), task(), box()), fault(api.ErrMuch, last+1))
	wantWrong(t, append(slices.Clone(less), with(gen(), func(d *api.Def) {
		d.Params = slices.Repeat([]api.Param{{Name: "a", Type: typeNum}}, api.MaxArgs)
	})), api.Fault{})
	stops := defsOf(api.MaxNodes - 2)
	wantWrong(t, append(slices.Clone(stops), task(api.Stat{Kind: api.SStop, X: num(1)})), api.Fault{})
	wantWrong(t, append(slices.Clone(stops), task(out(num(1)))), fault(api.ErrMuch, last))
	wantWrong(t, append(slices.Clone(stops), task(api.Stat{Kind: api.SLet, X: num(1)})), fault(api.ErrName, last))
}

// TestB4GoesRound: what holds itself ends all the same.
func TestB4GoesRound(t *testing.T) {
	kids := make([]api.Expr, api.MaxArgs)
	for i := range kids {
		kids[i] = named(api.ECall, "f", kids...)
	}
	for i := range kids {
		kids[i].Kids = kids
	}
	wantWrong(t, outs(named(api.ECall, "f", kids...)), fault(api.ErrMuch, 0))
	body := make([]api.Stat, api.MaxBody)
	for i := range body {
		body[i] = api.Stat{Kind: api.SIf, X: num(1), Body: body, Else: body}
	}
	wantWrong(t, []api.Def{box(), task(body...)}, fault(api.ErrMuch, 1))
}
