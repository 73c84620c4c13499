package sema_test

import (
	"slices"
	"testing"
	"unsafe"

	"yieldshape/api"
	"yieldshape/sema"
	"yieldshape/syn"
)

func TestC1WhatWrongSays(t *testing.T) {
	task := api.Def{Kind: api.DTask, Name: "t"}
	wrong := [][]api.Def{
		{{}},
		slices.Repeat([]api.Def{task}, api.MaxDefs+1),
		{task, task, {Kind: 9}},
		{task, {Kind: api.DTask, Name: "if"}},
		{{Kind: api.DBox, Name: "b", Type: typeNum, Cap: 21}},
		{{Kind: api.DBox, Name: "b", Type: api.Type{Kind: 4}, Cap: 1}, task},
		{{Kind: api.DFn, Name: "f", Type: typeNum, Params: make([]api.Param, 7)}, task},
		{task, {Kind: api.DTask, Name: "u", Body: []api.Stat{{Kind: api.SOut, X: api.Expr{Kind: api.ENeg}}}}},
		{task, {Kind: api.DTask, Name: "u", Body: []api.Stat{{Kind: api.SOut, X: num(-1)}}}},
		{task, {Kind: api.DTask, Name: "u", Body: make([]api.Stat, api.MaxBody+1)}},
	}
	for _, l := range wrong {
		f := syn.Wrong(l)
		if f.Err == api.OK {
			t.Fatalf("nothing is wrong with %v", l)
		}
		wantFaultOf(t, "what is wrong", l, f)
	}
}

// TestC1GoesRound: it ends even where a list stands in itself.
func TestC1GoesRound(t *testing.T) {
	kids := []api.Expr{{Kind: api.ENeg}}
	kids[0].Kids = kids
	body := []api.Stat{{Kind: api.SOut, X: kids[0]}}
	wantFaultOf(t, "kids round", []api.Def{{Kind: api.DTask, Name: "t", Body: body}}, fault(api.ErrMuch, 0))
	body = []api.Stat{{Kind: api.SWhile, X: api.Expr{Kind: api.EBool}}}
	body[0].Body = body
	wantFaultOf(t, "bodies round", []api.Def{{Kind: api.DTask, Name: "t", Body: body}}, fault(api.ErrMuch, 0))
}

func TestC1NamesAreTakenOnce(t *testing.T) {
	kinds := []string{"box a num 1 ;", "fn a ( ) num { }", "gen a ( ) takes num yields num { }", "task a { }"}
	for _, first := range kinds {
		for _, second := range kinds {
			wantFault(t, first+second+"task t { }", fault(api.ErrName, 1))
			wantFault(t, "task t { }"+first+"box c num 1 ; "+second, fault(api.ErrName, 3))
		}
	}
	wantFault(t, "task t { } task u { } task t { } task u { }", fault(api.ErrName, 2))
	wantFault(t, "task t { } task u { } task u { } task t { }", fault(api.ErrName, 2))
	wantFault(t, "task t { } task t { } task t { }", fault(api.ErrName, 1))
}

func TestC1NoTask(t *testing.T) {
	wantFaultOf(t, "nil", nil, fault(api.ErrNone, 0))
	wantFaultOf(t, "no definition", []api.Def{}, fault(api.ErrNone, 0))
	wantFault(t, "box b num 1 ;", fault(api.ErrNone, 1))
	wantFault(t, "fn f ( ) num { } gen g ( ) takes num yields num { } box b num 1 ;", fault(api.ErrNone, 3))
	wantOwners(t, "task t { }")
	wantOwners(t, "box b num 1 ; task t { }", owner("b", "", ""))
	wantOwners(t, "fn f ( ) num { } task t { } fn h ( ) num { }")
}

// TestC1WhichIsTold: each thing is wrong together with all that comes behind it, which stands ahead of it in the list.
func TestC1WhichIsTold(t *testing.T) {
	const (
		twice = "box b num 1 ; task u { send b 1 ; } task v { send b 1 ; } "
		body  = "fn f ( ) num { stop ; } "
		head  = "fn h ( ) g { } gen g ( ) takes num yields num { } "
	)
	wantFault(t, twice, fault(api.ErrFit, 0))
	wantFault(t, twice+body, fault(api.ErrFit, 3))
	wantFault(t, twice+"task w { out x ; }", fault(api.ErrName, 3))
	wantFault(t, twice+body+head, fault(api.ErrType, 4))
	wantFault(t, twice+body+head+"task h { }", fault(api.ErrName, 6))
	wantFault(t, "box b num 1 ; "+body+head, fault(api.ErrNone, 4))
	wantFault(t, "box b num 1 ; "+body+head+"fn f ( ) num { }", fault(api.ErrName, 4))
	l := read(t, twice+body+head+"task h { }")
	wantFaultOf(t, "a kind behind it all", append(l, api.Def{}), fault(api.ErrKind, 7))
}

// TestC1DefinitionByDefinition: of two that are wrong in the same part the first one is told, whatever is wrong with it.
func TestC1DefinitionByDefinition(t *testing.T) {
	heads := []struct {
		text string
		err  api.Errno
	}{
		{"fn @( a num , a num ) num { } ", api.ErrName},
		{"fn @( a none ) num { } ", api.ErrName},
		{"fn @( ) g { } ", api.ErrType},
		{"gen @( ) takes g yields num { } ", api.ErrType},
		{"box @g 1 ; ", api.ErrType},
	}
	bodies := []struct {
		text string
		err  api.Errno
	}{
		{"fn @( ) num { stop ; } ", api.ErrFit},
		{"fn @( ) num { return f ( ) ; } ", api.ErrName},
		{"gen @( ) takes num yields num { if 1 { } } ", api.ErrType},
		{"gen @( ) takes num yields num { do start g ( 1 ) ; } ", api.ErrMany},
		{"task @{ return 1 ; } ", api.ErrFit},
	}
	const about = "gen g ( ) takes num yields num { } task t { } "
	for i, first := range heads {
		for j, second := range heads {
			wantFault(t, about+named(first.text, "x")+named(second.text, "y"), fault(first.err, 2))
			wantFault(t, named(first.text, "x")+about+named(second.text, "y"), fault(first.err, 0))
			wantFault(t, about+named(bodies[i].text, "x")+named(second.text, "y"), fault(second.err, 3))
			wantFault(t, about+named(bodies[i].text, "x")+named(bodies[j].text, "y"), fault(bodies[i].err, 2))
			wantFault(t, about+"task u { } "+named(bodies[j].text, "y"), fault(bodies[j].err, 3))
		}
	}
}

// named puts a name where text leaves room for one.
func named(text, name string) string {
	for i := range text {
		if text[i] == '@' {
			return text[:i] + name + " " + text[i+1:]
		}
	}
	return text
}

func TestC2Params(t *testing.T) {
	for _, kind := range []string{"fn f (@) num { }", "gen f (@) takes num yields num { }"} {
		const about = "gen g ( ) takes num yields num { } box b num 1 ; fn h ( ) num { } task t { } "
		try := func(params string, want api.Errno) {
			t.Helper()
			text := named(kind, params)
			f := fault(want, 4)
			if want == api.OK {
				f.At = 0
			}
			wantFault(t, about+text, f)
		}
		try("", api.OK)
		try("a num", api.OK)
		try("a num , b bool , c g , d g , e num , f num", api.OK)
		try("a num , a num", api.ErrName)
		try("a num , b num , c num , d num , e num , a bool", api.ErrName)
		try("a num , b num , b num", api.ErrName)
		try("a none", api.ErrName)
		try("a num , c g , d none", api.ErrName)
		for _, other := range []string{"b", "h", "t"} {
			try("a "+other, api.ErrName)
		}
	}
	// names of definitions are no names of parameters
	wantOwners(t, "fn f ( f num , t num , g g ) num { return f + t ; } task t { } gen g ( g g ) takes num yields num { }")
}

func TestC2TypesOfHeads(t *testing.T) {
	const about = "gen g ( ) takes num yields num { } task t { } "
	for _, one := range []string{"num", "bool"} {
		for _, other := range []string{"num", "bool"} {
			wantFault(t, about+"box b "+one+" 1 ; fn f ( ) "+one+" { } gen h ( ) takes "+one+" yields "+other+" { }", api.Fault{})
		}
		wantFault(t, about+"gen h ( ) takes g yields "+one+" { }", fault(api.ErrType, 2))
		wantFault(t, about+"gen h ( ) takes "+one+" yields g { }", fault(api.ErrType, 2))
	}
	wantFault(t, about+"gen h ( ) takes h yields h { }", fault(api.ErrType, 2))
	wantFault(t, about+"box b g 1 ;", fault(api.ErrType, 2))
	wantFault(t, about+"fn f ( ) g { }", fault(api.ErrType, 2))
	// no such generator: it is TyGen all the same
	wantFault(t, about+"box b none 1 ;", fault(api.ErrType, 2))
	wantFault(t, about+"fn f ( ) none { }", fault(api.ErrType, 2))
	wantFault(t, about+"gen h ( ) takes none yields num { }", fault(api.ErrType, 2))
	wantFault(t, about+"gen h ( ) takes num yields none { }", fault(api.ErrType, 2))
}

// TestC2ParamsAheadOfTypes: of one head.
func TestC2ParamsAheadOfTypes(t *testing.T) {
	const about = "gen g ( ) takes num yields num { } task t { } "
	for _, params := range []string{"a num , a num", "a num , b none"} {
		wantFault(t, about+"fn f ( "+params+" ) g { }", fault(api.ErrName, 2))
		wantFault(t, about+"gen h ( "+params+" ) takes g yields g { }", fault(api.ErrName, 2))
	}
}

// TestFieldsThatAKindHasNot mean nothing (Z5).
func TestFieldsThatAKindHasNot(t *testing.T) {
	nonsense := []api.Stat{{Kind: api.SSend, Name: "b", X: api.Expr{Kind: api.EVar, Name: "none"}}}
	params := []api.Param{{Name: "x", Type: typeGen("none")}, {Name: "x", Type: typeGen("none")}}
	wantOwnersOf(t, "a box with a body and parameters", []api.Def{
		{Kind: api.DBox, Name: "b", Type: api.Type{Kind: api.TyNum, Gen: "g"}, Cap: 1, Takes: typeGen("g"), Params: params, Body: nonsense},
		{Kind: api.DTask, Name: "t", Cap: -1, Type: typeGen("none"), Takes: typeGen("none"), Params: params, Body: []api.Stat{{Kind: api.SLet, Name: "x", X: num(1)}}},
		{Kind: api.DFn, Name: "f", Cap: 99, Type: typeBool, Takes: typeGen("none")},
	}, []api.Owner{owner("b", "", "")})
	wantFaultOf(t, "a task's parameters", []api.Def{
		{Kind: api.DTask, Name: "t", Params: []api.Param{{Name: "x", Type: typeNum}}, Body: []api.Stat{{Kind: api.SOut, X: api.Expr{Kind: api.EVar, Name: "x"}}}},
	}, fault(api.ErrName, 0))
	recv := api.Expr{Kind: api.ERecv, Name: "b"}
	wantOwnersOf(t, "statements with what they have not", []api.Def{
		{Kind: api.DBox, Name: "b", Type: typeNum, Cap: 1},
		{Kind: api.DTask, Name: "t", Body: []api.Stat{
			{Kind: api.SStop, Name: "b", X: recv, Body: nonsense, Else: nonsense},
			{Kind: api.SWhile, Name: "b", X: api.Expr{Kind: api.EBool, Name: "b"}, Else: nonsense},
			{Kind: api.SOut, Name: "b", X: num(1), Body: nonsense, Else: nonsense},
			{Kind: api.SDo, Name: "b", X: api.Expr{Kind: api.ENeg, Name: "b", N: 7, Kids: []api.Expr{num(1)}}, Body: nonsense, Else: nonsense},
			{Kind: api.SLet, Name: "x", X: num(1), Body: nonsense, Else: nonsense},
			{Kind: api.SSet, Name: "x", X: num(1), Body: nonsense, Else: nonsense},
			{Kind: api.SIf, Name: "b", X: api.Expr{Kind: api.EBool}},
		}},
	}, []api.Owner{owner("b", "", "")})
}

// TestPlainTypesHaveNoGenerator: what stands in Gen of a number's or a truth's type tells no two of them apart (Z5).
func TestPlainTypesHaveNoGenerator(t *testing.T) {
	l := read(t, `box b num 1 ; fn f ( a num , c bool ) num { a = 1 ; c = true ; return a ; }
		gen g ( a num ) takes bool yields num { let x = yield ( a ) ; if x { } }
		task t { let n = f ( 1 , true ) ; n = recv ( b ) ; send b n ; out n == f ( 2 , false ) ; n = resume ( start g ( n ) , n == recv ( b ) ) ; }`)
	strange := func(y *api.Type, name string) {
		if y.Kind != api.TyGen {
			y.Gen = name
		}
	}
	for i := range l {
		strange(&l[i].Type, "g")
		strange(&l[i].Takes, "if")
		for j := range l[i].Params {
			strange(&l[i].Params[j].Type, []string{"f", "None"}[j])
		}
	}
	wantOwnersOf(t, "types with what they have not", l, []api.Owner{owner("b", "t", "t")})
}

func TestInputsAreOnlyRead(t *testing.T) {
	text := "box b num 1 ; fn f ( a num ) num { if a < 1 { let x = a ; send b x ; } return 1 ; } task t { do f ( recv ( b ) ) ; }"
	l, again := read(t, text), read(t, text)
	spare := append(slices.Clone(l), api.Def{Kind: 9, Name: "spare"}, api.Def{Kind: api.DTask, Name: "t"})
	wantOwnersOf(t, "what has spare room", spare[:len(l)], []api.Owner{owner("b", "t", "t")})
	if spare[len(l)].Name != "spare" || spare[len(l)+1].Name != "t" {
		t.Errorf("the spare room is changed: %v", spare[len(l):])
	}
	before, _ := syn.Print(again)
	after, _ := syn.Print(l)
	if before != after {
		t.Errorf("%s became %s", before, after)
	}
}

func TestAnswersAreNewMemory(t *testing.T) {
	l := read(t, "box b num 1 ; task t { send b recv ( b ) ; }")
	names := []byte("bt")
	l[0].Name, l[1].Name = unsafe.String(&names[0], 1), unsafe.String(&names[1], 1)
	first, _ := sema.Owners(l)
	second, _ := sema.Owners(l)
	copy(names, "cu")
	first[0] = api.Owner{}
	_ = append(first, api.Owner{Box: "more"})
	if second[0] != owner("b", "t", "t") {
		t.Errorf("what was answered changed: %v", second)
	}
}
