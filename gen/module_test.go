package gen_test

import (
	"fmt"
	"strings"
	"testing"

	"yieldshape/api"
	"yieldshape/gen"
	"yieldshape/sema"
)

func TestH1Numbers(t *testing.T) {
	wantModule(t, "task t { }", module(task("end")))
	wantModule(t, "task a { } task b { out 1 ; }", module(task("end"), task("push 1, out, end")))
	// Boxes and units are counted apart, wherever they stand among each other.
	wantModule(t, `
		task t { send q true ; out recv ( p ) ; do f ( ) ; do start g ( ) ; }
		box p num 20 ;
		fn f ( ) num { }
		box q bool 1 ;
		gen g ( ) takes num yields num { do f ( ) ; }`,
		api.Module{
			Boxes: []api.BoxInfo{{Type: number, Cap: 20}, {Type: truth, Cap: 1}},
			Units: []api.Unit{
				task("truth 1, send 1, recv 0, out, call 1, drop, start 2, drop, end"),
				{Kind: api.DFn, Result: number, Code: code("push 0, ret")},
				{Kind: api.DGen, Takes: number, Result: number, Code: code("call 1, drop, end")},
			},
		})
}

func TestH1Types(t *testing.T) {
	wantUnit(t, "fn here ( a num , b bool , c k , d g , e2 g , f2 bool ) num { }",
		api.Unit{Kind: api.DFn, Params: 6, Locals: []int{number, truth, ofK, ofG, ofG, truth}, Result: number, Code: code("push 0, ret")})
	wantUnit(t, "gen here ( h here ) takes num yields bool { }",
		api.Unit{Kind: api.DGen, Params: 1, Locals: []int{api.Handle + unitHere}, Takes: number, Result: truth, Code: code("end")})
	wantUnit(t, "gen here ( ) takes bool yields num { }",
		api.Unit{Kind: api.DGen, Takes: truth, Result: number, Code: code("end")})
	// The number of a generator that stands behind who names it.
	wantModule(t, "fn f ( h z ) bool { } task t { } box b num 1 ; gen y ( ) takes num yields num { } gen z ( ) takes num yields num { }",
		api.Module{
			Boxes: []api.BoxInfo{{Type: number, Cap: 1}},
			Units: []api.Unit{
				{Kind: api.DFn, Params: 1, Locals: []int{api.Handle + 3}, Result: truth, Code: code("truth 0, ret")},
				task("end"),
				{Kind: api.DGen, Takes: number, Result: number, Code: code("end")},
				{Kind: api.DGen, Takes: number, Result: number, Code: code("end")},
			},
		})
}

// TestH1LetTypes: a local is of the type of what it is let to be, of each kind of expressions.
func TestH1LetTypes(t *testing.T) {
	lets := []struct {
		x    string
		want int
	}{
		{"7", number}, {"true", truth}, {"a", number}, {"b", truth}, {"h", ofG}, {"j", api.Handle + unitHere},
		{"- a", number}, {"not b", truth},
		{"a + 1", number}, {"a - 1", number}, {"a * 1", number}, {"a / 1", number}, {"a % 1", number},
		{"a == 1", truth}, {"a != 1", truth}, {"b == b", truth}, {"a < 1", truth}, {"a <= 1", truth}, {"a > 1", truth}, {"a >= 1", truth},
		{"b and b", truth}, {"b or b", truth},
		{"f ( a , b , h )", number}, {"e ( )", truth}, {"recv ( bn )", number}, {"recv ( bb )", truth},
		{"yield ( true )", number},
		{"start g ( b )", ofG}, {"start k ( )", ofK}, {"start here ( a , b , h , j )", api.Handle + unitHere},
		{"resume ( h , b )", number}, {"resume ( start k ( ) , a )", truth}, {"resume ( j , resume ( h , b ) )", truth},
		{"alive ( h )", truth},
	}
	for _, c := range lets {
		text := around + "gen here ( a num , b bool , h g , j here ) takes num yields bool { let v = " + c.x + " ; let w = v ; w = v ; } task t { }"
		m, f := gen.Compile(read(t, text))
		if f != (api.Fault{}) {
			t.Errorf("%s: %v", c.x, f)
			continue
		}
		l := m.Units[unitHere].Locals
		if len(l) != 6 || l[4] != c.want || l[5] != c.want {
			t.Errorf("%s: locals %v; want %d in the end, twice", c.x, l, c.want)
		}
	}
}

// TestH1Locals: each let has a local of its own, as they stand in the text, whatever ended ahead of it.
func TestH1Locals(t *testing.T) {
	wantUnit(t, "fn here ( p bool , q num ) num { let r = true ; let s = q ; return s ; }",
		api.Unit{Kind: api.DFn, Params: 2, Locals: []int{truth, number, truth, number}, Result: number,
			Code: code("truth 1, store 2, load 1, store 3, load 3, ret, push 0, ret")})
	wantTask(t, "if true { let x = 1 ; out x ; } else { let x = false ; out x ; } let x = start k ( ) ; do alive ( x ) ;",
		"truth 1, else 7, push 1, store 0, load 0, out, jump 11, truth 0, store 1, load 1, out, start 2, store 2, load 2, alive, drop, end",
		number, truth, ofK)
	wantTask(t, "while true { let x = 1 ; if true { let y = x ; } let z = x ; } let y = true ; let x = y ;",
		"truth 1, else 12, push 1, store 0, truth 1, else 9, load 0, store 1, jump 9, load 0, store 2, jump 0, truth 1, store 3, load 3, store 4, end",
		number, number, number, truth, truth)
	// The same names in two units are two things.
	wantModule(t, "task a { let x = 1 ; let y = x ; out y ; } task b { let y = true ; let x = y ; out y ; }",
		module(task("push 1, store 0, load 0, store 1, load 1, out, end", number, number),
			task("truth 1, store 0, load 0, store 1, load 0, out, end", truth, truth)))
	// A local may have the name of a definition, or of a box.
	wantTask(t, "let bn = recv ( bn ) ; send bn bn ; let f = bn ; let e = e ( ) ; out e ; let g = start g ( e ) ; do f ( f , e , g ) ;",
		"recv 0, store 0, load 0, send 0, load 0, store 1, call 3, store 2, load 2, out, load 2, start 1, store 3, load 1, load 2, load 3, call 0, drop, end",
		number, number, truth, ofG)
}

func TestH1Ends(t *testing.T) {
	wantTask(t, "", "end")
	wantTask(t, "stop ;", "end, end")
	wantUnit(t, "fn here ( ) num { return 7 ; }", api.Unit{Kind: api.DFn, Result: number, Code: code("push 7, ret, push 0, ret")})
	wantUnit(t, "fn here ( ) bool { return true ; }", api.Unit{Kind: api.DFn, Result: truth, Code: code("truth 1, ret, truth 0, ret")})
	wantUnit(t, "gen here ( ) takes num yields num { stop ; }", api.Unit{Kind: api.DGen, Takes: number, Result: number, Code: code("end, end")})
	wantUnit(t, "gen here ( ) takes bool yields bool { }", api.Unit{Kind: api.DGen, Takes: truth, Result: truth, Code: code("end")})
}

// TestH1Refused: what Check says, at the definition's number, and nothing beside it.
func TestH1Refused(t *testing.T) {
	for text, want := range map[string]api.Fault{
		"":                                   fault(api.ErrNone, 0),
		"box b num 1 ; fn f ( ) num { }":     fault(api.ErrNone, 2),
		"task t { out x ; }":                 fault(api.ErrName, 0),
		"box b num 1 ; task t { out x ; }":   fault(api.ErrName, 1),
		"task t { } task t { }":              fault(api.ErrName, 1),
		"task t { out not 1 ; }":             fault(api.ErrType, 0),
		"task t { return 1 ; }":              fault(api.ErrFit, 0),
		"task t { } fn f ( ) num { stop ; }": fault(api.ErrFit, 1),
		"task t { } gen g ( h x ) takes num yields num { }":                       fault(api.ErrName, 1),
		"fn f ( ) num { } task t { do f ( 1 ) ; }":                                fault(api.ErrMany, 1),
		"task a { send b 1 ; } box c num 1 ; box b num 1 ; task d { send b 2 ; }": fault(api.ErrFit, 2),
	} {
		l := read(t, text)
		if f := sema.Check(l); f != want {
			t.Errorf("Check(%s): %v; want %v", text, f, want)
		}
		wantFault(t, text, l, want)
	}
	wantFault(t, "nil", nil, fault(api.ErrNone, 0))
	wantFault(t, "a definition of no kind", []api.Def{{}}, fault(api.ErrKind, 0))
	wantFault(t, "a definition of no kind behind a task", append(read(t, "task t { }"), api.Def{Kind: 5}), fault(api.ErrKind, 1))
	wantFault(t, "too many definitions", make([]api.Def, api.MaxDefs+1), fault(api.ErrMany, 0))
}

// TestH1Round: what goes round in itself is refused, too.
func TestH1Round(t *testing.T) {
	l := read(t, "task t { if true { } }")
	l[0].Body[0].Body = l[0].Body
	wantFault(t, "a body in itself", l, fault(api.ErrMuch, 0))
	l = read(t, "task t { out - 1 ; }")
	l[0].Body[0].X.Kids[0] = l[0].Body[0].X
	wantFault(t, "an expression in itself", l, fault(api.ErrMuch, 0))
}

// lets is a body with so many lets, in blocks that are not too great.
func lets(many int) string {
	var out strings.Builder
	for n := 0; n < many; n++ {
		if n%api.MaxBody == 0 {
			if n > 0 {
				out.WriteString("} ")
			}
			out.WriteString("if true { ")
		}
		fmt.Fprintf(&out, "let v%d=1;", n)
	}
	if many > 0 {
		out.WriteString("}")
	}
	return out.String()
}

func TestH1Most(t *testing.T) {
	const most = api.MaxLocals
	taskOf := func(many int) string { return "task t { " + lets(many) + " } " }
	fnOf := func(many int) string { return "fn f ( a num , b num ) num { " + lets(many) + " } " }
	genOf := func(many int) string {
		return "gen g ( a num , b bool , c g ) takes num yields num { " + lets(many) + " } "
	}
	const box, none = "box b num 1 ; ", "task none { } "
	for text, want := range map[string]api.Fault{
		taskOf(most):                     {},
		taskOf(most + 1):                 fault(api.ErrMany, 0),
		taskOf(most + 100):               fault(api.ErrMany, 0),
		box + taskOf(most+1):             fault(api.ErrMany, 1),
		none + box + taskOf(most+1):      fault(api.ErrMany, 2),
		box + none + fnOf(most-2):        {},
		box + none + fnOf(most-1):        fault(api.ErrMany, 2),
		none + genOf(most-3):             {},
		none + genOf(most-2):             fault(api.ErrMany, 1),
		box + fnOf(most-1) + taskOf(201): fault(api.ErrMany, 1),
		fnOf(most-2) + taskOf(most):      {},
		// What Check says comes ahead, wherever it is.
		taskOf(most+1) + "task u { out x ; }": fault(api.ErrName, 1),
		fnOf(most + 1):                        fault(api.ErrNone, 1),
	} {
		wantFault(t, text, read(t, text), want)
	}
	m, _ := gen.Compile(read(t, taskOf(most)))
	if n := len(m.Units[0].Locals); n != most {
		t.Errorf("%d locals; want %d", n, most)
	}
}

// TestH1AsLong: the longest code that a program may have. It is far from MaxCode.
func TestH1AsLong(t *testing.T) {
	choice := api.Stat{Kind: api.SIf, X: api.Expr{Kind: api.EBool, N: 1}}
	full := choice
	for range api.MaxBody {
		full.Body = append(full.Body, choice)
	}
	l := []api.Def{{Kind: api.DTask, Name: "t"}}
	for nodes := 1; nodes+2+2*api.MaxBody <= api.MaxNodes; nodes += 2 + 2*api.MaxBody {
		l[0].Body = append(l[0].Body, full)
	}
	m, f := gen.Compile(l)
	if f != (api.Fault{}) || len(m.Units[0].Code) != 1+3*(1+api.MaxBody)*len(l[0].Body) {
		t.Errorf("%v, %d instructions", f, len(m.Units[0].Code))
	}
}

// TestH1AsDeep: the deepest stack that a program may ask for is verified.
func TestH1AsDeep(t *testing.T) {
	const calls = api.MaxShape - 3 // below a definition and a statement, above a number
	params := strings.TrimSuffix(strings.Repeat("%c num,", api.MaxArgs), ",")
	head := fmt.Sprintf("fn f ("+params+") num { } task t { do ", 'a', 'b', 'c', 'd', 'e', 'g')
	ones := strings.Repeat("1,", api.MaxArgs-1)
	l := read(t, head+strings.Repeat("f("+ones, calls)+"1"+strings.Repeat(")", calls)+" ; }")
	m, f := gen.Compile(l)
	if n := calls*api.MaxArgs + 1 + 2; f != (api.Fault{}) || len(m.Units) != 2 || len(m.Units[1].Code) != n {
		t.Fatalf("%v, %v; want %d instructions", f, m, n)
	}
	wantModuleOf(t, "a deep one", l, m)
	l[1].Body[0].X = api.Expr{Kind: api.ENeg, Kids: []api.Expr{l[1].Body[0].X}}
	wantFault(t, "a deeper one", l, fault(api.ErrMuch, 1))
}

// TestZ5FieldsThatAKindHasNot: whatever stands in them, they mean nothing.
func TestZ5FieldsThatAKindHasNot(t *testing.T) {
	num := api.Type{Kind: api.TyNum, Gen: "odd"}
	odd := api.Type{Kind: 77, Gen: "odd"}
	params := []api.Param{{Name: "p", Type: api.Type{Kind: api.TyBool, Gen: "g"}}}
	oddParams := []api.Param{{Name: "odd", Type: odd}, {Name: "x", Type: num}}
	oddX := api.Expr{Kind: 77, N: 77, Name: "odd", Kids: []api.Expr{{Kind: 77}}}
	oddBody := []api.Stat{{Kind: api.SLet, Name: "odd", X: oddX}}
	one := api.Expr{Kind: api.ENum, N: 1, Name: "odd", Kids: []api.Expr{}}
	yes := api.Expr{Kind: api.EBool, N: 1, Name: "odd"}
	kids := func(l ...api.Expr) []api.Expr { return l }
	stat := func(kind int, name string, x api.Expr) api.Stat {
		return api.Stat{Kind: kind, Name: name, X: x, Body: oddBody, Else: oddBody}
	}
	l := []api.Def{
		{Kind: api.DBox, Name: "b", Type: num, Takes: odd, Cap: 3, Params: oddParams, Body: oddBody},
		{Kind: api.DFn, Name: "f", Type: num, Takes: odd, Cap: 77, Params: params, Body: []api.Stat{stat(api.SReturn, "odd", one)}},
		{Kind: api.DGen, Name: "g", Type: num, Takes: num, Cap: 77, Params: params, Body: []api.Stat{stat(api.SStop, "odd", oddX)}},
		{Kind: api.DTask, Name: "t", Type: odd, Takes: odd, Cap: 77, Params: oddParams, Body: []api.Stat{
			stat(api.SLet, "x", one),
			stat(api.SSet, "x", api.Expr{Kind: api.EVar, N: 77, Name: "x"}),
			stat(api.SSend, "b", api.Expr{Kind: api.ENeg, N: 77, Name: "odd", Kids: kids(one)}),
			stat(api.SOut, "odd", api.Expr{Kind: api.EAdd, N: 77, Name: "odd", Kids: kids(one, one)}),
			stat(api.SDo, "odd", api.Expr{Kind: api.ECall, N: 77, Name: "f", Kids: kids(yes)}),
			stat(api.SDo, "odd", api.Expr{Kind: api.ERecv, N: 77, Name: "b"}),
			stat(api.SDo, "odd", api.Expr{Kind: api.EAlive, N: 77, Name: "odd", Kids: kids(api.Expr{Kind: api.EStart, N: 77, Name: "g", Kids: kids(yes)})}),
			{Kind: api.SWhile, Name: "odd", X: yes, Else: oddBody},
			{Kind: api.SIf, Name: "odd", X: yes},
			stat(api.SStop, "odd", oddX),
		}},
	}
	wantModuleOf(t, "odd fields", l, api.Module{
		Boxes: []api.BoxInfo{{Type: number, Cap: 3}},
		Units: []api.Unit{
			{Kind: api.DFn, Params: 1, Locals: []int{truth}, Result: number, Code: code("push 1, ret, push 0, ret")},
			{Kind: api.DGen, Params: 1, Locals: []int{truth}, Result: number, Takes: number, Code: code("end, end")},
			task("push 1, store 0, load 0, store 0, push 1, neg, send 0, push 1, push 1, add, out, truth 1, call 0, drop, recv 0, drop, truth 1, start 1, alive, drop, truth 1, else 23, jump 20, truth 1, else 26, jump 26, end, end", number),
		},
	})
}
