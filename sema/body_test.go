package sema_test

import (
	"strings"
	"testing"

	"yieldshape/api"
)

// about is what the bodies of these tests speak of; what stands behind it has number aboutDefs.
const (
	about = `box bn num 1 ; box bb bool 1 ; fn f ( ) num { } fn p ( x bool , y num , z g ) bool { }
		gen g ( ) takes bool yields num { } gen h ( x num , z g ) takes num yields bool { } `
	aboutDefs = 6
)

// lets are variables of each type.
const lets = "let vn = 1 ; let vb = true ; let vg = start g ( ) ; let vh = start h ( 1 , vg ) ; "

// wantBody: what is wrong with a body, in a task, a function and a generator.
func wantBody(t *testing.T, body string, want api.Errno) {
	t.Helper()
	wantTaskBody(t, body, want)
	wantFnBody(t, body, want)
	wantGenBody(t, body, want)
}

func wantTaskBody(t *testing.T, body string, want api.Errno) {
	t.Helper()
	wantDef(t, "task t { "+body+" }", want)
}

func wantFnBody(t *testing.T, body string, want api.Errno) {
	t.Helper()
	wantDef(t, "fn q ( pn num , pb bool , pg g , ph h ) num { "+body+" } task t { }", want)
}

func wantGenBody(t *testing.T, body string, want api.Errno) {
	t.Helper()
	wantDef(t, "gen q ( pn num , pb bool , pg g , ph h ) takes num yields bool { "+body+" } task t { }", want)
}

func wantDef(t *testing.T, def string, want api.Errno) {
	t.Helper()
	f := fault(want, aboutDefs)
	if want == api.OK {
		f.At = 0
	}
	wantFault(t, about+def, f)
}

// samples are expressions of each type.
var samples = []struct{ kind, text string }{
	{"num", "1"}, {"num", "vn"}, {"num", "- vn"}, {"num", "1 + vn"}, {"num", "f ( )"}, {"num", "recv ( bn )"}, {"num", "resume ( vg , vb )"},
	{"bool", "true"}, {"bool", "vb"}, {"bool", "not vb"}, {"bool", "1 < 2"}, {"bool", "vb == true"}, {"bool", "p ( true , 1 , vg )"}, {"bool", "recv ( bb )"}, {"bool", "resume ( vh , 1 )"}, {"bool", "alive ( vg )"},
	{"g", "vg"}, {"g", "start g ( )"},
	{"h", "vh"}, {"h", "start h ( 1 , vg )"},
}

// TestC3WhatMustBeOfAType: each statement with an expression of each type.
func TestC3WhatMustBeOfAType(t *testing.T) {
	forms := []struct{ text, right string }{
		{"let x = @ ;", "num bool g h"},
		{"do @ ;", "num bool g h"},
		{"out @ ;", "num bool"},
		{"vn = @ ;", "num"}, {"vb = @ ;", "bool"}, {"vg = @ ;", "g"}, {"vh = @ ;", "h"},
		{"if @ { }", "bool"}, {"if @ { } else { }", "bool"}, {"while @ { }", "bool"},
		{"send bn @ ;", "num"}, {"send bb @ ;", "bool"},
	}
	for _, form := range forms {
		for _, x := range samples {
			want := api.ErrType
			if has(form.right, x.kind) {
				want = api.OK
			}
			wantBody(t, lets+named(form.text, x.text), want)
			wantBody(t, lets+"if vb { while false { "+named(form.text, x.text)+" } }", want)
			wantBody(t, lets+"if vb { } else { "+named(form.text, x.text)+" }", want)
		}
		// its own errors come ahead of its type
		wantBody(t, lets+named(form.text, "- none"), api.ErrName)
		wantBody(t, lets+named(form.text, "not p ( )"), api.ErrMany)
		wantTaskBody(t, lets+named(form.text, "alive ( yield ( 1 ) )"), api.ErrFit)
	}
}

func has(list, word string) bool {
	for _, s := range strings.Fields(list) {
		if s == word {
			return true
		}
	}
	return false
}

func TestC3Return(t *testing.T) {
	for _, x := range samples {
		for _, kind := range []string{"num", "bool"} {
			want := api.ErrType
			if x.kind == kind {
				want = api.OK
			}
			wantDef(t, "fn q ( ) "+kind+" { "+lets+"return "+x.text+" ; } task t { }", want)
		}
		wantTaskBody(t, lets+"return "+x.text+" ;", api.ErrFit)
		wantGenBody(t, lets+"return "+x.text+" ;", api.ErrFit)
	}
	for _, x := range []string{"none", "p ( )", "- true"} {
		wantTaskBody(t, "return "+x+" ;", api.ErrFit)
		wantGenBody(t, "if true { return "+x+" ; }", api.ErrFit)
	}
	wantFnBody(t, "return - none ;", api.ErrName)
	wantFnBody(t, "return not p ( ) ;", api.ErrMany)
	wantFnBody(t, "while true { return 1 ; return true ; }", api.ErrType)
	wantFnBody(t, "", api.OK)
}

func TestC3Stop(t *testing.T) {
	wantTaskBody(t, "stop ; stop ;", api.OK)
	wantGenBody(t, "if true { stop ; }", api.OK)
	wantFnBody(t, "stop ;", api.ErrFit)
	wantFnBody(t, "return 1 ; if true { } else { stop ; }", api.ErrFit)
	// what comes behind it is looked at all the same
	wantTaskBody(t, "stop ; out none ;", api.ErrName)
	wantFnBody(t, "return 1 ; out none ;", api.ErrName)
}

func TestC3Send(t *testing.T) {
	for _, name := range []string{"none", "f", "g", "vn", "t"} {
		wantTaskBody(t, lets+"send "+name+" 1 ;", api.ErrName)
		wantBody(t, lets+"send "+name+" p ( ) ;", api.ErrName)
	}
	wantFnBody(t, "send q 1 ;", api.ErrName)
	wantBody(t, "send bn 1 ; send bb true ;", api.OK)
}

// TestC3NamesOfStatements: which error of a statement is told.
func TestC3NamesOfStatements(t *testing.T) {
	wantBody(t, "x = 1 ;", api.ErrName)
	wantBody(t, "x = p ( ) ;", api.ErrName)
	wantBody(t, "x = - true ;", api.ErrName)
	wantBody(t, "let x = 1 ; x = p ( ) ;", api.ErrMany)
	// of SLet the expression comes first
	wantBody(t, "let x = 1 ; let x = 1 ;", api.ErrName)
	wantBody(t, "let x = 1 ; let x = true ;", api.ErrName)
	wantBody(t, "let x = 1 ; let x = p ( ) ;", api.ErrMany)
	wantBody(t, "let x = 1 ; let x = - true ;", api.ErrType)
	// a condition, then Body, then Else
	wantBody(t, "if 1 { out none ; } else { do p ( ) ; }", api.ErrType)
	wantBody(t, "if true { out none ; } else { do p ( ) ; }", api.ErrName)
	wantBody(t, "if true { } else { do p ( ) ; } out none ;", api.ErrMany)
	wantBody(t, "while 1 { out none ; }", api.ErrType)
	wantBody(t, "while true { do p ( ) ; } out none ;", api.ErrMany)
	// statement by statement
	wantBody(t, "do - true ; out none ;", api.ErrType)
	wantBody(t, "out none ; do - true ;", api.ErrName)
}

// TestC3NamesStand from where they are let on to the end of their block, and no further.
func TestC3NamesStand(t *testing.T) {
	right := []string{
		"let x = 1 ; out x ;",
		"let x = 1 ; let y = x ; let z = x + y ;",
		"let x = 1 ; if x == 1 { out x ; x = 2 ; if true { x = 3 ; } } else { x = 4 ; while x < 9 { x = x + 1 ; } } x = 5 ;",
		"if true { let x = 1 ; } let x = true ; x = false ;",
		"if true { let x = 1 ; } else { let x = true ; x = false ; }",
		"while true { let x = 1 ; } while true { let x = true ; x = x and x ; }",
		"while true { let x = 1 ; } if true { let x = true ; if x { let y = x ; y = x ; } let y = 1 ; y = 2 ; }",
		"if true { if true { let x = 1 ; let y = 2 ; } let x = true ; x = false ; } let x = 1 ; let y = true ;",
		"let a = 1 ; if true { let b = a ; if true { let c = b ; a = c ; } b = a ; } a = 2 ;",
		// what is no variable leaves a variable's name free
		"let bn = true ; let f = 1 ; let g = 2 ; let t = 3 ; let q = 4 ; send bn f + g + f ( ) ; bn = recv ( bb ) ; let z = start g ( ) ;",
	}
	for _, body := range right {
		wantBody(t, body, api.OK)
	}
	wrong := []string{
		"let x = x ;",
		"let x = x + 1 ;",
		"out x ; let x = 1 ;",
		"x = 1 ; let x = 1 ;",
		"if x { } let x = true ;",
		"if true { let x = 1 ; } out x ;",
		"if true { let x = 1 ; } x = 1 ;",
		"if true { let x = 1 ; } else { out x ; }",
		"if true { } else { let x = 1 ; } out x ;",
		"while true { let x = 1 ; } out x ;",
		"while x { let x = true ; }",
		"while true { out x ; let x = 1 ; }",
		"if true { if true { let x = 1 ; } out x ; }",
		"if true { let y = 1 ; if true { let x = 1 ; } out y ; out x ; }",
		"let x = 1 ; if true { let x = 1 ; }",
		"let x = 1 ; if true { } else { let x = 1 ; }",
		"let x = 1 ; while true { while true { let x = 1 ; } }",
		"let x = 1 ; if true { let y = 1 ; } let x = 1 ;",
		"if true { let x = 1 ; let x = 1 ; }",
		"if true { let x = 1 ; if true { let x = 2 ; } }",
		"out t ;", "out q ;", "out bn ;", "out f ;", "bn = 1 ;",
	}
	for _, body := range wrong {
		wantBody(t, body, api.ErrName)
	}
}

func TestC3ParamsStand(t *testing.T) {
	right := []string{
		"out pn ; out pb ; do pg ; do ph ;",
		"pn = 1 ; pb = true ; pg = start g ( ) ; ph = start h ( 1 , pg ) ;",
		"if pb { pn = pn + 1 ; } else { while pb { pb = false ; } } out pn ;",
	}
	for _, body := range right {
		wantFnBody(t, body, api.OK)
		wantGenBody(t, body, api.OK)
		wantTaskBody(t, body, api.ErrName)
	}
	for _, body := range []string{"let pn = 1 ;", "if true { let pb = true ; }", "while pb { if pb { } else { let ph = 1 ; } }"} {
		wantFnBody(t, body, api.ErrName)
		wantGenBody(t, body, api.ErrName)
	}
	for _, body := range []string{"pn = true ;", "pb = 1 ;", "pg = ph ;", "ph = pg ;", "pn = pg ;"} {
		wantFnBody(t, body, api.ErrType)
		wantGenBody(t, body, api.ErrType)
	}
	// those of one definition stand in no other one
	wantDef(t, "task t { out x ; }", api.ErrName)
	wantFault(t, "fn a ( x num ) num { let y = 1 ; return x ; } fn b ( ) num { return x ; } task t { }", fault(api.ErrName, 1))
	wantFault(t, "fn a ( x num ) num { let y = 1 ; return x ; } fn b ( ) num { return y ; } task t { }", fault(api.ErrName, 1))
	wantFault(t, "fn a ( x num ) num { let y = 1 ; return x ; } fn b ( y bool ) bool { let x = y ; return x ; } task t { let x = 1 ; let y = x ; }", api.Fault{})
}
