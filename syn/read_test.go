package syn_test

import (
	"strings"
	"testing"
	"unsafe"

	"yieldshape/api"
	"yieldshape/syn"
)

func TestB1Definitions(t *testing.T) {
	wantRead(t, "")
	wantRead(t, " # nothing\n\t")
	wantRead(t, "box b num 2 ;", api.Def{Kind: api.DBox, Name: "b", Type: typeNum, Cap: 2})
	wantRead(t, "box b bool 020;", api.Def{Kind: api.DBox, Name: "b", Type: typeBool, Cap: 20})
	wantRead(t, "box b h 1;", api.Def{Kind: api.DBox, Name: "b", Type: typeGen("h"), Cap: 1})
	wantRead(t, "fn f() num{}", api.Def{Kind: api.DFn, Name: "f", Type: typeNum})
	wantRead(t, "fn f(a num, b bool, c g) g { stop; }", api.Def{Kind: api.DFn, Name: "f", Type: typeGen("g"),
		Params: []api.Param{{Name: "a", Type: typeNum}, {Name: "b", Type: typeBool}, {Name: "c", Type: typeGen("g")}},
		Body:   []api.Stat{{Kind: api.SStop}}})
	wantRead(t, "gen g(a num) takes bool yields num { }", api.Def{Kind: api.DGen, Name: "g", Type: typeNum, Takes: typeBool,
		Params: []api.Param{{Name: "a", Type: typeNum}}})
	wantRead(t, "gen g() takes g yields h { }", api.Def{Kind: api.DGen, Name: "g", Type: typeGen("h"), Takes: typeGen("g")})
	wantRead(t, "task t { }", task())
	wantRead(t, "task t{}task t{}box t t 1;", task(), task(), api.Def{Kind: api.DBox, Name: "t", Type: typeGen("t"), Cap: 1})
}

func TestB1Statements(t *testing.T) {
	one, x := num(1), variable("x")
	for text, want := range map[string]api.Stat{
		"let x = 1;":            {Kind: api.SLet, Name: "x", X: one},
		"x = 1;":                {Kind: api.SSet, Name: "x", X: one},
		"if x { }":              {Kind: api.SIf, X: x},
		"if x { } else { }":     {Kind: api.SIf, X: x},
		"if x {out 1;}":         {Kind: api.SIf, X: x, Body: []api.Stat{out(one)}},
		"if x {} else {out 1;}": {Kind: api.SIf, X: x, Else: []api.Stat{out(one)}},
		"if x {stop;} else {x=1;}": {Kind: api.SIf, X: x, Body: []api.Stat{{Kind: api.SStop}},
			Else: []api.Stat{{Kind: api.SSet, Name: "x", X: one}}},
		"while x { }":               {Kind: api.SWhile, X: x},
		"while x {out 1; out x;}":   {Kind: api.SWhile, X: x, Body: []api.Stat{out(one), out(x)}},
		"while x {while 1 {stop;}}": {Kind: api.SWhile, X: x, Body: []api.Stat{{Kind: api.SWhile, X: one, Body: []api.Stat{{Kind: api.SStop}}}}},
		"return x;":                 {Kind: api.SReturn, X: x},
		"stop;":                     {Kind: api.SStop},
		"send x 1;":                 {Kind: api.SSend, Name: "x", X: one},
		"send x (1);":               {Kind: api.SSend, Name: "x", X: one},
		"out x;":                    {Kind: api.SOut, X: x},
		"do x;":                     {Kind: api.SDo, X: x},
	} {
		wantRead(t, "task t { "+text+" }", task(want))
		wantRead(t, "task t { "+text+" stop ; "+text+" }", task(want, api.Stat{Kind: api.SStop}, want))
		wantRead(t, "gen g ( ) takes num yields num { "+text+" }",
			api.Def{Kind: api.DGen, Name: "g", Type: typeNum, Takes: typeNum, Body: []api.Stat{want}})
	}
}

func TestB2Pieces(t *testing.T) {
	a, b := variable("a"), variable("b")
	for text, want := range map[string]api.Expr{
		"0":                   num(0),
		"007":                 num(7),
		"999999999999999":     num(999999999999999),
		"true":                boolean(1),
		"false":               boolean(0),
		"a":                   a,
		"abcdefghijkl":        variable("abcdefghijkl"),
		"(a)":                 a,
		"((a))":               a,
		"f()":                 named(api.ECall, "f"),
		"f(a)":                named(api.ECall, "f", a),
		"f ( a , b )":         named(api.ECall, "f", a, b),
		"f(a,b,a,b,a,b)":      named(api.ECall, "f", a, b, a, b, a, b),
		"f(f(a),a+b)":         named(api.ECall, "f", named(api.ECall, "f", a), node(api.EAdd, a, b)),
		"start g()":           named(api.EStart, "g"),
		"start g(a,1)":        named(api.EStart, "g", a, num(1)),
		"recv(b)":             named(api.ERecv, "b"),
		"yield(a)":            node(api.EYield, a),
		"alive(a)":            node(api.EAlive, a),
		"resume(a,b)":         node(api.EResume, a, b),
		"resume(start g(),1)": node(api.EResume, named(api.EStart, "g"), num(1)),
		"-a":                  node(api.ENeg, a),
		"not a":               node(api.ENot, a),
		"- - not - a":         node(api.ENeg, node(api.ENeg, node(api.ENot, node(api.ENeg, a)))),
		"-(a+b)":              node(api.ENeg, node(api.EAdd, a, b)),
		"-f(a)":               node(api.ENeg, named(api.ECall, "f", a)),
	} {
		wantRead(t, "task t { out "+text+" ; }", outs(want)...)
		wantRead(t, "task t { let x = ("+text+") ; }", task(api.Stat{Kind: api.SLet, Name: "x", X: want}))
	}
}

// TestB2TwoSigns goes through all pairs of signs between three expressions.
func TestB2TwoSigns(t *testing.T) {
	a, b, c := variable("a"), variable("b"), variable("c")
	for _, p := range pairKinds {
		wantRead(t, "task t { out a "+p.sign+" b ; }", outs(node(p.kind, a, b))...)
		wantRead(t, "task t { out not a "+p.sign+" - b ; }", outs(node(p.kind, node(api.ENot, a), node(api.ENeg, b)))...)
		for _, q := range pairKinds {
			text := "task t { out a " + p.sign + " b " + q.sign + " c ; }"
			left := node(q.kind, node(p.kind, a, b), c)
			right := node(p.kind, a, node(q.kind, b, c))
			switch {
			case p.level == 3 && q.level == 3:
				wantReadFault(t, text, fault(api.ErrForm, len("task t { out a "+p.sign+" b ")))
			case p.level < q.level:
				wantRead(t, text, outs(right)...)
			default:
				wantRead(t, text, outs(left)...)
			}
			wantRead(t, "task t { out ( a "+p.sign+" b ) "+q.sign+" c ; }", outs(left)...)
			wantRead(t, "task t { out a "+p.sign+" ( b "+q.sign+" c ) ; }", outs(right)...)
		}
	}
}

func TestB2FromTheLeftAsOftenAsTheyCome(t *testing.T) {
	a := variable("a")
	for _, p := range pairKinds {
		if p.level == 3 {
			continue
		}
		want := a
		for range 30 {
			want = node(p.kind, want, a)
		}
		wantRead(t, "task t { out "+repeat(31, "a", " "+p.sign+" ")+" ; }", outs(want)...)
	}
}

func TestB2AllLevelsAtOnce(t *testing.T) {
	a, b, c, d := variable("a"), variable("b"), variable("c"), variable("d")
	wantRead(t, "task t { out a or b and c == d + a * - b ; }",
		outs(node(api.EOr, a, node(api.EAnd, b, node(api.EEq, c, node(api.EAdd, d, node(api.EMul, a, node(api.ENeg, b)))))))...)
	wantRead(t, "task t { out - a * b + c == d and a or b ; }",
		outs(node(api.EOr, node(api.EAnd, node(api.EEq, node(api.EAdd, node(api.EMul, node(api.ENeg, a), b), c), d), a), b))...)
	wantRead(t, "task t { out a < b and c < d or a < d ; }",
		outs(node(api.EOr, node(api.EAnd, node(api.ELt, a, b), node(api.ELt, c, d)), node(api.ELt, a, d)))...)
}

func TestB3WhatTokensSays(t *testing.T) {
	wantReadFault(t, "task t { out ? ; }", fault(api.ErrForm, 13))
	wantReadFault(t, "task ; T", fault(api.ErrForm, 7))
	wantReadFault(t, "stop ; 1234567890123456", fault(api.ErrRange, 7))
	wantReadFault(t, "stop "+strings.Repeat(" ", api.MaxSource-4), fault(api.ErrMuch, 0))
	wantReadFault(t, "stop "+strings.Repeat(" ", api.MaxSource-5), fault(api.ErrForm, 0))
	wantRead(t, "task t { }"+strings.Repeat("\n", api.MaxSource-10), task())
	wantRead(t, "task t { out 123456789012345 ; }", outs(num(123456789012345))...)
	wantReadFault(t, "task t { out 1234567890123456 ; }", fault(api.ErrRange, 13))
	wantReadFault(t, "task t { out 0000000000000001 ; }", fault(api.ErrRange, 13))
}

func TestB3CantGoOn(t *testing.T) {
	for text, at := range map[string]int{
		"stop ;":                                0,
		"a":                                     0,
		"1":                                     0,
		"task t { } }":                          11,
		"task t { } else { }":                   11,
		"task { }":                              5,
		"task 1 { }":                            5,
		"task t ( ) { }":                        7,
		"task t ; ":                             7,
		"box b num a ;":                         10,
		"box b num ;":                           10,
		"box b 1 ;":                             6,
		"box b num - 1 ;":                       10,
		"box b num 1 }":                         12,
		"fn f num { }":                          5,
		"fn f ( a ) num { }":                    9,
		"fn f ( a num , ) num { }":              15,
		"fn f ( , ) num { }":                    7,
		"fn f ( a num b num ) num":              13,
		"fn f ( ) { }":                          9,
		"gen g ( ) num { }":                     10,
		"gen g ( ) yields num { }":              10,
		"gen g ( ) takes num { }":               20,
		"task t { out ; }":                      13,
		"task t { out 1 }":                      15,
		"task t { out 1 2 ; }":                  15,
		"task t { out ( 1 ; }":                  17,
		"task t { out ( ) ; }":                  15,
		"task t { out 1 + ; }":                  17,
		"task t { out * 1 ; }":                  13,
		"task t { out a = 1 ; }":                15,
		"task t { let = 1 ; }":                  13,
		"task t { let a 1 ; }":                  15,
		"task t { let a == 1 ; }":               15,
		"task t { a ; }":                        11,
		"task t { f ( ) ; }":                    11,
		"task t { 1 = a ; }":                    9,
		"task t { ; }":                          9,
		"task t { { } }":                        9,
		"task t { stop }":                       14,
		"task t { stop 1 ; }":                   14,
		"task t { return ; }":                   16,
		"task t { if { } }":                     12,
		"task t { if a stop ; }":                14,
		"task t { while a ; }":                  17,
		"task t { send b ; }":                   16,
		"task t { send 1 ; }":                   14,
		"task t { if a { } else stop ; }":       23,
		"task t { if a { } else if a { } }":     23,
		"task t { out recv b ; }":               18,
		"task t { out recv ( 1 ) ; }":           20,
		"task t { out recv ( ) ; }":             20,
		"task t { out recv ( a , b ) ; }":       22,
		"task t { out start ( ) ; }":            19,
		"task t { out start g ; }":              21,
		"task t { out yield 1 ; }":              19,
		"task t { out yield ( ) ; }":            21,
		"task t { out yield ( 1 , 2 ) ; }":      23,
		"task t { out alive ( ) ; }":            21,
		"task t { out alive ( h , 1 ) ; }":      23,
		"task t { out resume ( ) ; }":           22,
		"task t { out resume ( h ) ; }":         24,
		"task t { out resume ( h , ) ; }":       26,
		"task t { out resume ( h , 1 , 2 ) ; }": 28,
		"task t { out f ( 1 , ) ; }":            21,
		"task t { out f ( , 1 ) ; }":            17,
		"task t { out f ( 1 2 ) ; }":            19,
	} {
		wantReadFault(t, text, fault(api.ErrForm, at))
	}
}

// TestB3OneIsMissing: the text's end is behind all that stands in it, blanks and remarks too.
func TestB3OneIsMissing(t *testing.T) {
	const text = "gen g ( a num , b h ) takes bool yields num { while f ( a , - 1 ) { if not ( a == b ) { send b recv ( b ) ; } else { } } return a ; }"
	words := strings.Fields(text)
	for n := 1; n < len(words); n++ {
		for _, tail := range []string{"", " ", "\n\t", " # } remark", "# a\n  "} {
			cut := strings.Join(words[:n], " ") + tail
			wantReadFault(t, cut, fault(api.ErrForm, len(cut)))
		}
	}
	for _, cut := range []string{"box", "box b", "box b num", "box b num 1", "fn f", "task t"} {
		wantReadFault(t, cut, fault(api.ErrForm, len(cut)))
	}
}

func TestB3NoName(t *testing.T) {
	kept := strings.Fields("box fn gen task takes yields let if else while return stop send out do recv yield start resume alive num bool true false and or not")
	for _, word := range append(kept, "abcdefghijklm") {
		for _, ahead := range []string{
			"box ", "fn ", "gen ", "task ", "fn f ( ", "fn f ( a num , ", "task t { let ", "task t { send ",
			"task t { out recv ( ", "task t { out start ",
		} {
			wantReadFault(t, ahead+word+" }", fault(api.ErrName, len(ahead)))
		}
	}
	for text, at := range map[string]int{
		"box b if 1 ;":                       6,
		"fn f ( a true ) num { }":            9,
		"fn f ( ) and { }":                   9,
		"gen g ( ) takes yields":             16,
		"task t { else { } }":                9,
		"task t { abcdefghijklm =":           9,
		"task t { task":                      9,
		"task t { out num ; }":               13,
		"task t { out 1 + or":                17,
		"task t { out not and":               17,
		"task t { out ( let ) ; }":           15,
		"task t { out f ( stop":              17,
		"task t { a = abcdefghijklm ( ) ; }": 13,
		"task t { if else":                   12,
	} {
		wantReadFault(t, text, fault(api.ErrName, at))
	}
}

func TestB3Places(t *testing.T) {
	wantRead(t, "box b num 1 ;", api.Def{Kind: api.DBox, Name: "b", Type: typeNum, Cap: 1})
	wantRead(t, "box b num 20 ;", api.Def{Kind: api.DBox, Name: "b", Type: typeNum, Cap: 20})
	for _, n := range []string{"0", "21", "000", "999999999999999"} {
		wantReadFault(t, "box b num "+n+" ;", fault(api.ErrRange, 10))
		wantReadFault(t, "box b num "+n, fault(api.ErrRange, 10))
		wantReadFault(t, "box b num "+n+" box", fault(api.ErrRange, 10))
	}
}

func TestB3ManyDefinitions(t *testing.T) {
	all := strings.Repeat("task t { } ", api.MaxDefs)
	if l, f := syn.Read(all); f.Err != api.OK || len(l) != api.MaxDefs {
		t.Errorf("%d definitions: %v", api.MaxDefs, f)
	}
	for _, more := range []string{"task t { }", "box", "fn f", "gen 1"} {
		wantReadFault(t, all+more, fault(api.ErrMany, len(all)))
	}
	for _, none := range []string{"stop", "}", "1", "x"} {
		wantReadFault(t, all+none, fault(api.ErrForm, len(all)))
	}
}

func TestB3ManyStatements(t *testing.T) {
	for _, ahead := range []string{"task t { ", "fn f ( ) num { ", "task t { while a { ", "task t { if a { ", "task t { if a { } else { "} {
		all := ahead + strings.Repeat("stop ; ", api.MaxBody)
		closing := strings.Repeat("} ", strings.Count(ahead, "{")-strings.Count(ahead, "}"))
		if _, f := syn.Read(all + closing); f.Err != api.OK {
			t.Errorf("%q: %v", ahead, f)
		}
		for _, more := range []string{"stop ; }", "let", "if", "while", "return", "send 1", "out", "do )", "a = 1", "x"} {
			wantReadFault(t, all+more, fault(api.ErrMany, len(all)))
		}
		for _, none := range []string{"", ";", "1", "("} {
			wantReadFault(t, all+none, fault(api.ErrForm, len(all)))
		}
		for _, none := range []string{"else", "box", "abcdefghijklm"} {
			wantReadFault(t, all+none, fault(api.ErrName, len(all)))
		}
	}
	inner := "while a { " + strings.Repeat("stop ; ", api.MaxBody) + "} "
	if _, f := syn.Read("task t { " + strings.Repeat(inner, 10) + "}"); f.Err != api.OK {
		t.Errorf("bodies are counted each for itself: %v", f)
	}
}

func TestB3ManyParameters(t *testing.T) {
	for _, ahead := range []string{"fn f ( ", "gen g ( "} {
		all := ahead + repeat(api.MaxArgs, "a num", " , ")
		closing := " ) takes num yields num { }"
		if ahead == "fn f ( " {
			closing = " ) num { }"
		}
		l, f := syn.Read(all + closing)
		if f.Err != api.OK || len(l[0].Params) != api.MaxArgs {
			t.Errorf("%q: %v", all, f)
		}
		all += " , "
		for _, more := range []string{"a num )", "b", "a ;"} {
			wantReadFault(t, all+more, fault(api.ErrMany, len(all)))
		}
		for _, none := range []string{"", ")", "1"} {
			wantReadFault(t, all+none, fault(api.ErrForm, len(all)))
		}
		wantReadFault(t, all+"num", fault(api.ErrName, len(all)))
	}
}

func TestB3ManyKids(t *testing.T) {
	for _, ahead := range []string{"f ( ", "start f ( ", "( f ( ", "yield ( f ( ", "- f ( "} {
		all := "task t { out " + ahead + repeat(api.MaxArgs, "1", " , ")
		if _, f := syn.Read(all + strings.Repeat(" )", strings.Count(ahead, "(")) + " ; }"); f.Err != api.OK {
			t.Errorf("%q: %v", all, f)
		}
		all += " , "
		for _, more := range []string{"1 )", "a", "( ;", "-", "not", "true", "false", "start", "recv", "yield", "alive", "resume"} {
			wantReadFault(t, all+more, fault(api.ErrMany, len(all)))
		}
		for _, none := range []string{"", ")", ";", "*"} {
			wantReadFault(t, all+none, fault(api.ErrForm, len(all)))
		}
		for _, none := range []string{"if", "abcdefghijklm"} {
			wantReadFault(t, all+none, fault(api.ErrName, len(all)))
		}
	}
}

// opener is what opens one level each time it stands there, and what closes it.
type opener struct{ ahead, open, inside, close, behind string }

// text is the program in which it stands n times.
func (o opener) text(n int) string {
	return o.ahead + strings.Repeat(o.open, n) + o.inside + " " + strings.Repeat(o.close, n) + o.behind
}

// TestB3Deep: how often each opener may stand there hangs on what is open around it: a task's body and, but for bodies, a statement's expression.
func TestB3Deep(t *testing.T) {
	for _, c := range []struct {
		opener
		around int
	}{
		{opener{"task t { out ", "( ", "1", ") ", "; }"}, 2},
		{opener{"task t { if ", "( ", "1", ") ", "{ } }"}, 2},
		{opener{"task t { a = ", "( ", "1", ") ", "; }"}, 2},
		{opener{"task t { send b ", "( ", "1", ") ", "; }"}, 2},
		{opener{"task t { out f ( 1 , ", "( ", "1", ") ", ") ; }"}, 3},
		{opener{"task t { out start f ( ", "( ", "1", ") ", ") ; }"}, 3},
		{opener{"task t { out yield ( ", "( ", "1", ") ", ") ; }"}, 3},
		{opener{"task t { out resume ( h , ", "( ", "1", ") ", ") ; }"}, 3},
		{opener{"task t { out - ", "( ", "1", ") ", "; }"}, 3},
		{opener{"task t { out not - ", "( ", "1", ") ", "; }"}, 4},
		{opener{"task t { out 1 + 2 * ", "( ", "1", ") ", "; }"}, 2},
		{opener{"task t { out - 1 + ", "( ", "1", ") ", "; }"}, 2},
		{opener{"task t { out ( 1 ) + f ( 1 ) + ", "( ", "1", ") ", "; }"}, 2},
		{opener{"task t { while a { } out 1 ; out ", "( ", "1", ") ", "; }"}, 2},
		{opener{"task t { while a { out ", "( ", "1", ") ", "; } }"}, 3},
		{opener{"task s { } task t { if a { } else { out ", "( ", "1", ") ", "; } }"}, 3},
	} {
		most := api.MaxDeep - c.around
		if _, f := syn.Read(c.text(most)); f != (api.Fault{}) {
			t.Errorf("%q, %d times: %v", c.ahead, most, f)
		}
		at := len(c.ahead) + len(c.open)*(most+1)
		wantReadFault(t, c.text(most+1), fault(api.ErrMuch, at))
		wantReadFault(t, c.text(most+9), fault(api.ErrMuch, at))
	}
}

// TestB3DeepAndInTheEnd: what makes something is nested deeper than MaxShape long ahead of MaxDeep; that is told in the end, at 0.
// Within an opener there may be an expression of its own: it is met at what comes back bytes ahead of the opener's end.
func TestB3DeepAndInTheEnd(t *testing.T) {
	for _, c := range []struct {
		opener
		around, each, back int
	}{
		{opener{"task t { out ", "- ", "1", "", "; }"}, 2, 1, 0},
		{opener{"task t { out ", "not ", "1", "", "; }"}, 2, 1, 0},
		{opener{"task t { out ", "- ( ", "1", ") ", "; }"}, 2, 2, len("( ")},
		{opener{"task t { out ", "f ( ", "1", ") ", "; }"}, 2, 1, 0},
		{opener{"task t { out ", "start f ( ", "1", ") ", "; }"}, 2, 1, 0},
		{opener{"task t { out ", "yield ( ", "1", ") ", "; }"}, 2, 1, 0},
		{opener{"task t { out ", "alive ( ", "1", ") ", "; }"}, 2, 1, 0},
		{opener{"task t { out ", "resume ( ", "1", ", 1 ) ", "; }"}, 2, 1, 0},
		{opener{"task t { out ", "resume ( 1 , ", "1", ") ", "; }"}, 2, 1, len("1 , ")},
		{opener{"task t { ", "while a { ", "stop ; ", "} ", "}"}, 1, 1, len("a { ")},
		{opener{"task t { ", "if a { ", "stop ; ", "} ", "}"}, 1, 1, len("a { ")},
		{opener{"task t { ", "if a { } else { ", "", "} ", "}"}, 1, 1, len("a { } else { ")},
		{opener{"fn f ( ) num { ", "while a { ", "stop ; ", "} ", "}"}, 1, 1, len("a { ")},
	} {
		most := (api.MaxDeep - c.around) / c.each
		wantReadFault(t, c.text(most), fault(api.ErrMuch, 0))
		wantReadFault(t, c.text(most+1), fault(api.ErrMuch, len(c.ahead)+len(c.open)*(most+1)-c.back))
	}
}

// TestB3DeepAtWhatComesNext: too many are open ahead of what comes next, whatever that is.
func TestB3DeepAtWhatComesNext(t *testing.T) {
	ahead := "task t { out " + strings.Repeat("(", api.MaxDeep-1)
	for _, next := range []string{"", "1", "a", "(", "-", ")", ";", "if", "  1", "# x\n 1"} {
		at := len(ahead)
		switch next {
		case "  1":
			at += 2
		case "# x\n 1":
			at += 5
		}
		wantReadFault(t, ahead+next, fault(api.ErrMuch, at))
	}
	bodies := strings.Repeat("while a { ", api.MaxDeep-1)
	wantReadFault(t, "task t { "+bodies+"stop ;", fault(api.ErrForm, len("task t { "+bodies+"stop ;")))
	wantReadFault(t, "task t { "+bodies+"out 1 ;", fault(api.ErrMuch, len("task t { "+bodies+"out ")))
	wantReadFault(t, "task t { "+bodies+"while a {", fault(api.ErrMuch, len("task t { "+bodies+"while ")))
}

func TestB3Shape(t *testing.T) {
	minus := func(n int) string { return "task t { out " + strings.Repeat("- ", n) + "1 ; }" }
	if _, f := syn.Read(minus(api.MaxShape - 3)); f.Err != api.OK {
		t.Errorf("%d deep: %v", api.MaxShape, f)
	}
	wantReadFault(t, minus(api.MaxShape-2), fault(api.ErrMuch, 0))
	wantReadFault(t, "task t { } "+minus(api.MaxShape-2), fault(api.ErrMuch, 0))
	sum := func(n int) string { return "task t { out " + repeat(n, "1", "+") + " ; }" }
	if _, f := syn.Read(sum(api.MaxShape - 2)); f.Err != api.OK {
		t.Errorf("a sum %d deep: %v", api.MaxShape, f)
	}
	wantReadFault(t, sum(api.MaxShape-1), fault(api.ErrMuch, 0))
}

func TestB3Nodes(t *testing.T) {
	for _, n := range []int{1, 40, api.MaxNodes - 1, api.MaxNodes} {
		if l, f := syn.Read(textOf(n)); f.Err != api.OK || countNodes(l) != n {
			t.Errorf("%d nodes: %v, %d", n, f, countNodes(l))
		}
	}
	wantReadFault(t, textOf(api.MaxNodes+1), fault(api.ErrMuch, 0))
	wantReadFault(t, textOf(api.MaxNodes+500), fault(api.ErrMuch, 0))
}

// textOf is a program of so many nodes: tasks that put out numbers with as many signs ahead as MaxShape allows.
func textOf(nodes int) string {
	text := ""
	for nodes > 0 {
		text += "task t{"
		nodes--
		for i := 0; i < api.MaxBody && nodes > 1; i++ {
			n := min(nodes, api.MaxShape-1)
			text += "out " + strings.Repeat("-", n-2) + "1;"
			nodes -= n
		}
		text += "}"
	}
	return text
}

func countNodes(l []api.Def) int {
	n := len(l)
	for _, d := range l {
		n += countStats(d.Body)
	}
	return n
}

func countStats(l []api.Stat) int {
	n := len(l)
	for _, s := range l {
		if s.Kind != api.SStop {
			n += countExpr(s.X)
		}
		n += countStats(s.Body) + countStats(s.Else)
	}
	return n
}

func countExpr(x api.Expr) int {
	n := 1
	for _, kid := range x.Kids {
		n += countExpr(kid)
	}
	return n
}

// TestB3WhichIsMetFirst: errors further on are not told.
func TestB3WhichIsMetFirst(t *testing.T) {
	for text, want := range map[string]api.Fault{
		"box if num 0 ;":                                                   fault(api.ErrName, 4),
		"box b if 0 ;":                                                     fault(api.ErrName, 6),
		"box b num 0 if":                                                   fault(api.ErrRange, 10),
		"box b num a 0":                                                    fault(api.ErrForm, 10),
		"task t { stop if } box b num 0 ;":                                 fault(api.ErrForm, 14),
		"box b num 0 ; task t { stop if }":                                 fault(api.ErrRange, 10),
		"task t { out f ( 1 , 2 , 3 , 4 , 5 , 6 , if":                      fault(api.ErrName, 41),
		"task t { out f ( 1 , 2 , 3 , 4 , 5 , 6 , 7 +":                     fault(api.ErrMany, 41),
		"task t { out f ( 1 , 2 , 3 , 4 , 5 6 , 7":                         fault(api.ErrForm, 35),
		"task t { out " + strings.Repeat("- ", 50) + "1 ; } box b num 0 ;": fault(api.ErrRange, 13+100+2+2+2+10),
		"task t { out " + strings.Repeat("- ", 50) + "1 ; } x":             fault(api.ErrForm, 13+100+2+2+2),
		"task t { out " + strings.Repeat("( ", 50) + "1 ; }":               fault(api.ErrForm, 13+100+2),
	} {
		wantReadFault(t, text, want)
	}
}

// TestReadAnswersNewMemory: no name of the answer lies in the text.
func TestReadAnswersNewMemory(t *testing.T) {
	text := strings.Clone("gen g ( a h ) takes k yields l { let m = n + f ( start o ( ) , recv ( p ) ) ; }")
	l, f := syn.Read(text)
	if f.Err != api.OK {
		t.Fatal(f)
	}
	d, s := l[0], l[0].Body[0]
	for _, name := range []string{d.Name, d.Params[0].Name, d.Params[0].Type.Gen, d.Takes.Gen, d.Type.Gen, s.Name,
		s.X.Kids[0].Name, s.X.Kids[1].Name, s.X.Kids[1].Kids[0].Name, s.X.Kids[1].Kids[1].Name} {
		for i := range len(text) {
			if unsafe.StringData(name) == unsafe.StringData(text[i:]) {
				t.Errorf("%q lies in the text", name)
			}
		}
	}
}

// TestReadEnds: nothing that it is given throws it off.
func TestReadEnds(t *testing.T) {
	m := newMaker(2)
	for range 20000 {
		var words []string
		for range m.Intn(40) {
			words = append(words, strays[m.Intn(len(strays))])
		}
		text := "task t { " + strings.Join(words, " ")
		if l, f := syn.Read(text); f.Err != api.OK && (l != nil || f.At < 0 || f.At > len(text)) {
			t.Fatalf("Read(%q) = %v, %v", text, l, f)
		}
	}
}
