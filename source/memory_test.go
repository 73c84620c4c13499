package source_test

import (
	"reflect"
	"slices"
	"testing"

	"yieldshape/api"
	"yieldshape/source"
)

// roomy is a list with something behind it, in its spare room, each of its entries made by copied.
func roomy[T any](l []T, behind T, copied func(T) T) []T {
	out := make([]T, 0, len(l)+1)
	for _, x := range l {
		out = append(out, copied(x))
	}
	return append(out, behind)[:len(l)]
}

func roomyExpr(x api.Expr) api.Expr {
	x.Kids = roomy(x.Kids, api.Expr{Kind: api.EVar, Name: "odd"}, roomyExpr)
	return x
}

func roomyStat(s api.Stat) api.Stat {
	odd := api.Stat{Kind: api.SOut, X: num(77)}
	s.X, s.Body, s.Else = roomyExpr(s.X), roomy(s.Body, odd, roomyStat), roomy(s.Else, odd, roomyStat)
	return s
}

func roomyDef(d api.Def) api.Def {
	d.Params = roomy(d.Params, api.Param{Name: "odd"}, func(p api.Param) api.Param { return p })
	d.Body = roomy(d.Body, api.Stat{Kind: api.SOut, X: num(77)}, roomyStat)
	return d
}

func roomyDefs(l []api.Def) []api.Def {
	return roomy(l, api.Def{Kind: api.DTask, Name: "odd"}, roomyDef)
}

// wide is a list with its spare room, all of it copied.
func wide[T any](l []T, copied func(T) T) []T {
	var out []T
	for _, x := range l[:cap(l)] {
		out = append(out, copied(x))
	}
	return out
}

func wideExpr(x api.Expr) api.Expr {
	x.Kids = wide(x.Kids, wideExpr)
	return x
}

func wideStat(s api.Stat) api.Stat {
	s.X, s.Body, s.Else = wideExpr(s.X), wide(s.Body, wideStat), wide(s.Else, wideStat)
	return s
}

func wideDef(d api.Def) api.Def {
	d.Params, d.Body = slices.Clone(d.Params[:cap(d.Params)]), wide(d.Body, wideStat)
	return d
}

// TestZ2ArgumentsAreOnlyRead: nor is the spare room behind them changed, or looked at.
func TestZ2ArgumentsAreOnlyRead(t *testing.T) {
	for _, p := range made(t, 91, 200) {
		want, wantFault := source.Play(p.defs)
		l := roomyDefs(p.defs)
		before := wide(l, wideDef)
		if w, f := source.Play(l); f != wantFault || !same(w, want) {
			t.Fatalf("%s\nwith spare room behind: %+v, %v; want %+v, %v", text(p.defs), w, f, want, wantFault)
		}
		if !reflect.DeepEqual(wide(l, wideDef), before) {
			t.Fatalf("%v becomes %v", before, wide(l, wideDef))
		}
	}
}

// scribble writes into a list and its spare room.
func scribble[T any](l []T, x T) {
	for i := range l[:cap(l)] {
		l[:cap(l)][i] = x
	}
}

func scribbleStats(l []api.Stat) {
	for _, s := range l {
		scribble(s.X.Kids, api.Expr{})
		scribbleStats(s.Body)
		scribbleStats(s.Else)
	}
	scribble(l, api.Stat{})
}

// scribbleDefs writes into all lists of a program.
func scribbleDefs(l []api.Def) {
	for _, d := range l {
		scribble(d.Params, api.Param{})
		scribbleStats(d.Body)
	}
	scribble(l, api.Def{})
}

// scribbleWorld writes into a world's lists one by one: those that were not written into yet must stay as they were.
func scribbleWorld(t *testing.T, w, want api.World) {
	t.Helper()
	sameOuts := func(a, b api.End) bool { return slices.Equal(a.Out, b.Out) }
	for i, e := range w.Tasks {
		if !slices.EqualFunc(w.Tasks[i:], want.Tasks[i:], sameOuts) {
			t.Fatalf("%+v becomes %+v", want, w)
		}
		scribble(e.Out, 77)
	}
	for i, l := range w.Boxes {
		if !slices.EqualFunc(w.Boxes[i:], want.Boxes[i:], slices.Equal) {
			t.Fatalf("%+v becomes %+v", want, w)
		}
		scribble(l, 77)
	}
	scribble(w.Tasks, api.End{State: 77})
	scribble(w.Boxes, nil)
}

// TestZ2AnswersAreTheCallers: each list of an answer is memory of its own, with its spare room; and nothing that was handed in is kept.
func TestZ2AnswersAreTheCallers(t *testing.T) {
	for _, p := range made(t, 92, 200) {
		l := roomyDefs(p.defs)
		w, f := source.Play(l)
		want := full(w)
		scribbleDefs(l)
		if !same(w, want) {
			t.Fatalf("%s\n%+v becomes %+v with what was handed in", text(p.defs), want, w)
		}
		scribbleWorld(t, w, want)
		if again, g := source.Play(p.defs); g != f || !same(again, want) {
			t.Fatalf("%s\n%+v, %v the second time; want %+v, %v", text(p.defs), again, g, want, f)
		}
	}
}

// TestZ3Empty: lists without entries are none.
func TestZ3Empty(t *testing.T) {
	empty := func(x api.Expr) api.Expr {
		x.Kids = []api.Expr{}
		return x
	}
	out := api.Stat{Kind: api.SOut, X: empty(num(1)), Body: []api.Stat{}, Else: []api.Stat{}}
	choice := api.Stat{Kind: api.SIf, X: empty(truth(0)), Body: []api.Stat{}, Else: []api.Stat{}}
	call := api.Stat{Kind: api.SOut, X: api.Expr{Kind: api.ECall, Name: "f", Kids: []api.Expr{}}}
	l := []api.Def{
		{Kind: api.DTask, Name: "t", Params: []api.Param{}, Body: []api.Stat{choice, out, call}},
		{Kind: api.DTask, Name: "u", Body: []api.Stat{}},
		{Kind: api.DFn, Name: "f", Type: typeNum, Params: []api.Param{}, Body: []api.Stat{}},
	}
	wantWorldOf(t, "empty lists", l, api.World{Tasks: ends(done(1, 0), done()), Steps: 6})
}

// odd is something that means nothing where it stands.
var odd = []api.Stat{{Kind: 77, Name: "?", X: api.Expr{Kind: 78}}}

func oddType(t api.Type) api.Type {
	if t.Kind != api.TyGen {
		t.Gen = "?"
	}
	return t
}

// oddExpr is x with something in all fields that its kind has not.
func oddExpr(x api.Expr) api.Expr {
	kids := slices.Clone(x.Kids)
	for i := range kids {
		kids[i] = oddExpr(kids[i])
	}
	x.Kids = kids
	switch x.Kind {
	case api.ENum, api.EBool:
		x.Name = "?"
	case api.EVar, api.ECall, api.ERecv, api.EStart:
		x.N = -77
	default:
		x.N, x.Name = -77, "?"
	}
	return x
}

func oddStats(l []api.Stat) []api.Stat {
	l = slices.Clone(l)
	for i, s := range l {
		s.X, s.Body, s.Else = oddExpr(s.X), oddStats(s.Body), oddStats(s.Else)
		switch s.Kind {
		case api.SIf:
			s.Name = "?"
		case api.SWhile:
			s.Name, s.Else = "?", odd
		case api.SLet, api.SSet, api.SSend:
			s.Body, s.Else = odd, odd
		case api.SStop:
			s.Name, s.X, s.Body, s.Else = "?", api.Expr{Kind: 77}, odd, odd
		default:
			s.Name, s.Body, s.Else = "?", odd, odd
		}
		l[i] = s
	}
	return l
}

func oddDefs(l []api.Def) []api.Def {
	l = slices.Clone(l)
	for i, d := range l {
		none, params := api.Type{Kind: 77, Gen: "?"}, []api.Param{{Name: "v0", Type: api.Type{Kind: 77}}}
		d.Params = slices.Clone(d.Params)
		for n := range d.Params {
			d.Params[n].Type = oddType(d.Params[n].Type)
		}
		d.Type, d.Takes, d.Body = oddType(d.Type), oddType(d.Takes), oddStats(d.Body)
		switch d.Kind {
		case api.DBox:
			d.Takes, d.Params, d.Body = none, params, odd
		case api.DTask:
			d.Type, d.Takes, d.Cap, d.Params = none, none, -7, params
		case api.DFn:
			d.Takes, d.Cap = none, -7
		default:
			d.Cap = -7
		}
		l[i] = d
	}
	return l
}

// TestZ5OddFields: fields that a kind has not mean nothing, whatever stands in them.
func TestZ5OddFields(t *testing.T) {
	for _, p := range made(t, 93, 400) {
		want, wantFault := source.Play(p.defs)
		if w, f := source.Play(oddDefs(p.defs)); f != wantFault || !same(w, want) {
			t.Fatalf("%s\nwith odd fields: %+v, %v; want %+v, %v", text(p.defs), w, f, want, wantFault)
		}
	}
}
