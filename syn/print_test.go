package syn_test

import (
	"reflect"
	"slices"
	"strings"
	"testing"

	"yieldshape/api"
	"yieldshape/lex"
	"yieldshape/syn"
)

// written are programs as Print writes them: each is read, and written again.
var written = []string{
	"",
	"box b num 1 ;",
	"box b bool 20 ;",
	"box b g 7 ;",
	"fn f ( ) num { }",
	"fn f ( a num ) bool { }",
	"fn f ( a num , b bool , c g ) g { return c ; }",
	"gen g ( ) takes num yields bool { }",
	"gen g ( h g ) takes g yields h { stop ; }",
	"task t { }",
	"task t { } task t { } box b num 3 ; fn f ( ) num { }",
	"task t { let a = 1 ; a = 0 ; send b true ; out false ; do a ; return a ; stop ; }",
	"task t { if a { } }",
	"task t { if a { } else { stop ; } }",
	"task t { if a { stop ; } else { if b { out 1 ; } } }",
	"task t { while a { while b { } } }",
	"task t { out f ( ) ; out f ( 1 ) ; out f ( 1 , a + b , ( a or b ) and c ) ; }",
	"task t { out start g ( ) ; out start g ( 1 , 2 ) ; }",
	"task t { out recv ( b ) ; out yield ( a ) ; out alive ( a ) ; out resume ( a , b ) ; }",
	"task t { out - a ; out not a ; out - - not - 1 ; out - ( a + b ) ; out - f ( a ) ; }",
	"task t { out 999999999999999 ; out 0 ; }",
}

func TestB5WrittenAndRead(t *testing.T) {
	for _, text := range written {
		l, f := syn.Read(text)
		if f.Err != api.OK {
			t.Errorf("Read(%q): %v", text, f)
		}
		wantPrint(t, text, l...)
	}
}

func TestB5AsItIsReadIsNotAlwaysAsItIsWritten(t *testing.T) {
	for text, want := range map[string]string{
		"":                                    "",
		" # x":                                "",
		"box\tb num\n2;#":                     "box b num 2 ;",
		"box b num 0002 ;":                    "box b num 2 ;",
		"task t{out 000;out 007;}":            "task t { out 0 ; out 7 ; }",
		"task t{if a{}else{}}":                "task t { if a { } }",
		"task t{out((a));}":                   "task t { out a ; }",
		"task t{out f((a),((b)));}":           "task t { out f ( a , b ) ; }",
		"task t{out(a*b)+(c*d);}":             "task t { out a * b + c * d ; }",
		"task t{out((a+b)+c)+d;}":             "task t { out a + b + c + d ; }",
		"task t{out a+(b+(c+d));}":            "task t { out a + ( b + ( c + d ) ) ; }",
		"task t{if(a){}while(a){}}":           "task t { if a { } while a { } }",
		"task t{send b(a);}":                  "task t { send b a ; }",
		"task t{out-(a);out-(-a);out(-a)*b;}": "task t { out - a ; out - - a ; out - a * b ; }",
		"task t{out a--b;}":                   "task t { out a - - b ; }",
	} {
		l, f := syn.Read(text)
		if f.Err != api.OK {
			t.Errorf("Read(%q): %v", text, f)
		}
		wantPrint(t, want, l...)
	}
}

// TestB5TwoSigns goes through all pairs of signs, one as the left and one as the right kid of the other.
func TestB5TwoSigns(t *testing.T) {
	a, b, c := variable("a"), variable("b"), variable("c")
	for _, p := range pairKinds {
		wantPrint(t, "task t { out a "+p.sign+" b ; }", outs(node(p.kind, a, b))...)
		wantPrint(t, "task t { out - a "+p.sign+" not b ; }", outs(node(p.kind, node(api.ENeg, a), node(api.ENot, b)))...)
		wantPrint(t, "task t { out - ( a "+p.sign+" b ) ; }", outs(node(api.ENeg, node(p.kind, a, b)))...)
		wantPrint(t, "task t { out not ( a "+p.sign+" b ) ; }", outs(node(api.ENot, node(p.kind, a, b)))...)
		for _, q := range pairKinds {
			left := "( a " + p.sign + " b ) " + q.sign + " c"
			if p.level > q.level || p.level == q.level && p.level != 3 {
				left = "a " + p.sign + " b " + q.sign + " c"
			}
			wantPrint(t, "task t { out "+left+" ; }", outs(node(q.kind, node(p.kind, a, b), c))...)
			right := "a " + p.sign + " ( b " + q.sign + " c )"
			if q.level > p.level {
				right = "a " + p.sign + " b " + q.sign + " c"
			}
			wantPrint(t, "task t { out "+right+" ; }", outs(node(p.kind, a, node(q.kind, b, c)))...)
		}
	}
}

// TestB5NoBracketsInKids: between the brackets of kids, and behind a statement's word, no brackets are needed.
func TestB5NoBracketsInKids(t *testing.T) {
	or, text := node(api.EOr, variable("a"), variable("b")), "a or b"
	for want, x := range map[string]api.Expr{
		"f ( " + text + " )":                      named(api.ECall, "f", or),
		"start g ( " + text + " , " + text + " )": named(api.EStart, "g", or, or),
		"yield ( " + text + " )":                  node(api.EYield, or),
		"alive ( " + text + " )":                  node(api.EAlive, or),
		"resume ( " + text + " , " + text + " )":  node(api.EResume, or, or),
	} {
		wantPrint(t, "task t { out "+want+" ; }", outs(x)...)
	}
	wantPrint(t, "task t { let a = a or b ; a = a or b ; if a or b { } while a or b { } return a or b ; send a a or b ; out a or b ; do a or b ; }",
		task(api.Stat{Kind: api.SLet, Name: "a", X: or}, api.Stat{Kind: api.SSet, Name: "a", X: or}, api.Stat{Kind: api.SIf, X: or},
			api.Stat{Kind: api.SWhile, X: or}, api.Stat{Kind: api.SReturn, X: or}, api.Stat{Kind: api.SSend, Name: "a", X: or},
			api.Stat{Kind: api.SOut, X: or}, api.Stat{Kind: api.SDo, X: or}))
}

// TestB5WhatIsWrittenIsRead goes through many programs: each comes back as it was, and not one pair of its brackets can be left out.
func TestB5WhatIsWrittenIsRead(t *testing.T) {
	m := newMaker(4)
	taken := 0
	for range 1500 {
		l := m.program()
		text, f := syn.Print(l)
		if f.Err != api.OK {
			continue
		}
		got, f := syn.Read(text)
		if f.Err != api.OK || !same(got, l) {
			t.Fatalf("Read(%q) = %v, %v; want %v", text, got, f, l)
		}
		words := strings.Fields(text)
		if strings.Join(words, " ") != text {
			t.Fatalf("%q has other gaps than one blank", text)
		}
		for i := range words {
			without := takeBrackets(words, i)
			if without == "" {
				continue
			}
			taken++
			if got, f := syn.Read(without); f.Err == api.OK && same(got, l) {
				t.Fatalf("%q needs no more than %q", text, without)
			}
		}
	}
	if taken < 500 {
		t.Errorf("only %d pairs of brackets were looked at", taken)
	}
}

// takeBrackets answers the words without the brackets that open at i, nothing if none open there, or those of kids or parameters.
func takeBrackets(words []string, i int) string {
	kids := i > 0 && (lex.Named(words[i-1]) || slices.Contains([]string{"recv", "yield", "alive", "resume"}, words[i-1]))
	if words[i] != "(" || kids && !(i > 1 && words[i-2] == "send") {
		return ""
	}
	open := 0
	for j := i; ; j++ {
		switch words[j] {
		case "(":
			open++
		case ")":
			open--
		}
		if open == 0 {
			rest := append(slices.Clone(words[:i]), words[i+1:j]...)
			return strings.Join(append(rest, words[j+1:]...), " ")
		}
	}
}

// TestB5FieldsThatAKindHasNot mean nothing (Z5).
func TestB5FieldsThatAKindHasNot(t *testing.T) {
	stop := []api.Stat{{Kind: api.SStop}}
	wantPrint(t, "box b num 1 ;", api.Def{Kind: api.DBox, Name: "b", Type: api.Type{Kind: api.TyNum, Gen: "x"}, Takes: typeNum, Cap: 1,
		Params: make([]api.Param, 1), Body: stop})
	wantPrint(t, "fn f ( ) num { }", api.Def{Kind: api.DFn, Name: "f", Type: typeNum, Takes: typeBool, Cap: -1})
	wantPrint(t, "task t { }", api.Def{Kind: api.DTask, Name: "t", Type: typeNum, Takes: typeBool, Cap: 9, Params: make([]api.Param, 1)})
	wantPrint(t, "task t { stop ; }", task(api.Stat{Kind: api.SStop, Name: "a", X: num(1), Body: stop, Else: stop}))
	wantPrint(t, "task t { while a { } out a ; }", task(api.Stat{Kind: api.SWhile, Name: "b", X: variable("a"), Else: stop},
		api.Stat{Kind: api.SOut, Name: "b", X: variable("a"), Body: stop, Else: stop}))
	wantPrint(t, "task t { out a + 1 ; }", outs(api.Expr{Kind: api.EAdd, N: 7, Name: "b",
		Kids: []api.Expr{{Kind: api.EVar, N: 5, Name: "a"}, {Kind: api.ENum, N: 1, Name: "c"}}})...)
}

// ofLength is a program whose text has n bytes: tasks that send, with a name of fitting length in the last statement.
func ofLength(t *testing.T, n int) []api.Def {
	t.Helper()
	long := strings.Repeat("a", api.MaxName)
	l := []api.Def{task()}
	for {
		text, f := syn.Print(l)
		last := &l[len(l)-1]
		rest := n - len(text) - len("out  ; ")
		switch {
		case f.Err != api.OK:
			t.Fatal(f)
		case rest <= api.MaxName:
			last.Body = append(last.Body, out(variable(strings.Repeat("a", rest))))
			return l
		case len(last.Body) == api.MaxBody-1:
			l = append(l, task())
		case rest > 100:
			last.Body = append(last.Body, api.Stat{Kind: api.SSend, Name: long, X: variable(long)})
		default:
			last.Body = append(last.Body, out(variable("a")))
		}
	}
}

func TestB5TooLong(t *testing.T) {
	for _, n := range []int{api.MaxSource - 1, api.MaxSource} {
		l := ofLength(t, n)
		text, f := syn.Print(l)
		if f.Err != api.OK || len(text) != n {
			t.Errorf("%d bytes: %d, %v", n, len(text), f)
		}
		wantRead(t, text, l...)
	}
	for _, n := range []int{1, 2, 3} {
		l := ofLength(t, api.MaxSource)
		l[0].Name = strings.Repeat("t", 1+n)
		text, f := syn.Print(l)
		if f != fault(api.ErrMuch, 0) || text != "" {
			t.Errorf("%d bytes too many: %.60q, %v", n, text, f)
		}
	}
	l := append(ofLength(t, api.MaxSource), box(), api.Def{})
	if _, f := syn.Print(l); f != fault(api.ErrKind, len(l)-1) {
		t.Errorf("what Wrong says comes first: %v", f)
	}
}

// TestInputsAreOnlyRead: neither the lists nor the spare room behind them change (Z2).
func TestInputsAreOnlyRead(t *testing.T) {
	m := newMaker(5)
	for range 200 {
		l := m.program()
		room := append(slices.Clone(l), box(), box())
		before := deepCopy(reflect.ValueOf(room)).Interface().([]api.Def)
		syn.Wrong(room[:len(l)])
		syn.Print(room[:len(l)])
		if !same(room, before) {
			t.Fatalf("%v became %v", before, room)
		}
	}
}

func deepCopy(v reflect.Value) reflect.Value {
	out := reflect.New(v.Type()).Elem()
	switch v.Kind() {
	case reflect.Slice:
		for i := range v.Len() {
			out = reflect.Append(out, deepCopy(v.Index(i)))
		}
	case reflect.Struct:
		for i := range v.NumField() {
			out.Field(i).Set(deepCopy(v.Field(i)))
		}
	default:
		out.Set(v)
	}
	return out
}

// TestNothingIsKept: whoever handed a list in may change it, and the answer stays.
func TestNothingIsKept(t *testing.T) {
	l, _ := syn.Read("task t { out f ( a , 1 ) ; }")
	text, _ := syn.Print(l)
	l[0].Name, l[0].Body[0].X.Kids[0].Name = "x", "y"
	if text != "task t { out f ( a , 1 ) ; }" {
		t.Errorf("the text became %q", text)
	}
	again, _ := syn.Read(text)
	if again[0].Name != "t" || again[0].Body[0].X.Kids[0].Name != "a" {
		t.Errorf("another reading became %v", again)
	}
}
