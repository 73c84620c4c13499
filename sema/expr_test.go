package sema_test

import (
	"strings"
	"testing"

	"yieldshape/api"
)

// exprForm is how an expression is written, with @ for each kid, of which type its kids are, and of which one it is itself.
type exprForm struct{ text, kids, result string }

// exprForms: of EEq and ENe one for numbers and one for truths.
func exprForms() []exprForm {
	out := []exprForm{
		{"- @", "num", "num"}, {"not @", "bool", "bool"},
		{"1", "", "num"}, {"0", "", "num"}, {"true", "", "bool"}, {"false", "", "bool"},
		{"vn", "", "num"}, {"vb", "", "bool"}, {"vg", "", "g"}, {"vh", "", "h"},
		{"f ( )", "", "num"}, {"p ( @ , @ , @ )", "bool num g", "bool"},
		{"start g ( )", "", "g"}, {"start h ( @ , @ )", "num g", "h"},
		{"recv ( bn )", "", "num"}, {"recv ( bb )", "", "bool"},
		{"resume ( vg , @ )", "bool", "num"}, {"resume ( vh , @ )", "num", "bool"},
		{"resume ( @ , true )", "g", "num"}, {"resume ( @ , 1 )", "h", "bool"},
	}
	for _, sign := range strings.Fields("+ - * / %") {
		out = append(out, exprForm{"@ " + sign + " @", "num num", "num"})
	}
	for _, sign := range strings.Fields("< <= > >= == !=") {
		out = append(out, exprForm{"@ " + sign + " @", "num num", "bool"})
	}
	for _, sign := range strings.Fields("and or == !=") {
		out = append(out, exprForm{"@ " + sign + " @", "bool bool", "bool"})
	}
	return out
}

// with fills the room for kids.
func (f exprForm) with(kids ...string) string {
	out := f.text
	for _, kid := range kids {
		out = strings.Replace(out, "@", "( "+kid+" )", 1)
	}
	return out
}

// holds tells whether it is EEq or ENe, of which both kids come ahead of their types.
func (f exprForm) holds() bool {
	return strings.Contains(f.text, "==") || strings.Contains(f.text, "!=")
}

// rightKids are kids of the types that are asked for.
func (f exprForm) rightKids() []string {
	var out []string
	for _, kind := range strings.Fields(f.kids) {
		out = append(out, map[string]string{"num": "vn", "bool": "vb", "g": "vg", "h": "vh"}[kind])
	}
	return out
}

func wantExpr(t *testing.T, x string, want api.Errno) {
	t.Helper()
	wantBody(t, lets+"do "+x+" ;", want)
}

func TestC4TypesOfExpressions(t *testing.T) {
	for _, form := range exprForms() {
		for _, kind := range []string{"num", "bool", "g", "h"} {
			want := api.ErrType
			if form.result == kind {
				want = api.OK
			}
			wantBody(t, lets+map[string]string{"num": "vn", "bool": "vb", "g": "vg", "h": "vh"}[kind]+" = "+form.with(form.rightKids()...)+" ;", want)
		}
	}
}

func TestC4TypesOfKids(t *testing.T) {
	for _, form := range exprForms() {
		kinds := strings.Fields(form.kids)
		for i := range kinds {
			for _, x := range samples {
				kids := form.rightKids()
				kids[i] = x.text
				want := api.ErrType
				if x.kind == kinds[i] {
					want = api.OK
				}
				wantExpr(t, form.with(kids...), want)
			}
		}
	}
}

// TestC4HeldAgainstEachOther: two numbers or two truths, nothing else.
func TestC4HeldAgainstEachOther(t *testing.T) {
	for _, sign := range []string{"==", "!="} {
		for _, first := range samples {
			for _, second := range samples {
				want := api.ErrType
				if first.kind == second.kind && (first.kind == "num" || first.kind == "bool") {
					want = api.OK
				}
				wantExpr(t, "( "+first.text+" ) "+sign+" ( "+second.text+" )", want)
			}
		}
	}
}

// TestC4KidByKid: each kid's own errors, then its type, then the next kid; of EEq and ENe both kids come first.
func TestC4KidByKid(t *testing.T) {
	wrongType := map[string]string{"num": "vh", "bool": "vh", "g": "vh", "h": "vg"}
	for _, form := range exprForms() {
		kinds := strings.Fields(form.kids)
		for i := range kinds {
			for j := i + 1; j < len(kinds); j++ {
				kids := form.rightKids()
				kids[i], kids[j] = "none", "p ( )"
				wantExpr(t, form.with(kids...), api.ErrName)
				kids[i], kids[j] = "p ( )", "none"
				wantExpr(t, form.with(kids...), api.ErrMany)
				kids[i], kids[j] = "p ( )", wrongType[kinds[j]]
				wantExpr(t, form.with(kids...), api.ErrMany)
				kids[i], kids[j] = wrongType[kinds[i]], "none"
				want := api.ErrType
				if form.holds() {
					want = api.ErrName
				}
				wantExpr(t, form.with(kids...), want)
			}
			kids := form.rightKids()
			kids[i] = "- none"
			wantExpr(t, form.with(kids...), api.ErrName)
			kids[i] = "not p ( )"
			wantExpr(t, form.with(kids...), api.ErrMany)
		}
	}
}

func TestC4Names(t *testing.T) {
	for _, name := range []string{"none", "g", "bn", "t", "vn"} {
		wantTaskBody(t, lets+"do "+name+" ( ) ;", api.ErrName)
		wantBody(t, lets+"do "+name+" ( none ( 1 ) , p ( ) ) ;", api.ErrName)
	}
	for _, name := range []string{"none", "f", "bn", "t", "vn", "vg"} {
		wantTaskBody(t, lets+"do start "+name+" ( ) ;", api.ErrName)
		wantTaskBody(t, lets+"do start "+name+" ( p ( ) ) ;", api.ErrName)
	}
	for _, name := range []string{"none", "f", "g", "t", "vn"} {
		wantTaskBody(t, lets+"do recv ( "+name+" ) ;", api.ErrName)
	}
	for _, name := range []string{"none", "f", "g", "bn", "t"} {
		wantTaskBody(t, lets+"do "+name+" ;", api.ErrName)
	}
	wantTaskBody(t, "do q ( ) ;", api.ErrName)
	wantFnBody(t, "do q ( pn , pb , pg , ph ) ;", api.OK)
	wantFnBody(t, "do start q ( pn , pb , pg , ph ) ;", api.ErrName)
	wantGenBody(t, "do start q ( pn , pb , pg , ph ) ;", api.OK)
	wantGenBody(t, "do q ( pn , pb , pg , ph ) ;", api.ErrName)
}

func TestC4HowManyKids(t *testing.T) {
	for _, x := range []string{"f ( 1 )", "p ( )", "p ( true )", "p ( true , 1 )", "p ( true , 1 , vg , vg )", "start g ( 1 )", "start h ( )", "start h ( 1 )", "start h ( 1 , vg , 1 )"} {
		wantExpr(t, x, api.ErrMany)
	}
	// how many they are comes ahead of what they are
	wantExpr(t, "p ( none , - true )", api.ErrMany)
	wantExpr(t, "f ( none )", api.ErrMany)
	wantExpr(t, "start h ( none )", api.ErrMany)
}

func TestC4Yield(t *testing.T) {
	for _, x := range []string{"yield ( 1 )", "yield ( true )", "yield ( none )", "yield ( p ( ) )"} {
		wantTaskBody(t, "do "+x+" ;", api.ErrFit)
		wantFnBody(t, "do "+x+" ;", api.ErrFit)
	}
	for _, takes := range []string{"num", "bool"} {
		for _, yields := range []string{"num", "bool"} {
			for _, x := range samples {
				def := "gen q ( ) takes " + takes + " yields " + yields + " { " + lets + "let y = yield ( " + x.text + " ) ; @ } task t { }"
				if x.kind != yields {
					wantDef(t, named(def, ""), api.ErrType)
					continue
				}
				wantDef(t, named(def, ""), api.OK)
				as := map[bool]api.Errno{true: api.OK, false: api.ErrType}
				wantDef(t, named(def, "vn = y ;"), as[takes == "num"])
				wantDef(t, named(def, "vb = y ;"), as[takes == "bool"])
			}
		}
	}
	wantGenBody(t, "do yield ( - none ) ;", api.ErrName)
	wantGenBody(t, "do yield ( p ( ) ) ;", api.ErrMany)
	wantGenBody(t, "do yield ( yield ( true ) == 1 ) ;", api.OK)
	wantGenBody(t, "do yield ( yield ( true ) ) ;", api.ErrType)
}

func TestC4Resume(t *testing.T) {
	for _, x := range samples {
		switch x.kind {
		case "g":
			wantExpr(t, "resume ( "+x.text+" , true )", api.OK)
			wantExpr(t, "resume ( "+x.text+" , 1 )", api.ErrType)
			wantExpr(t, "alive ( "+x.text+" )", api.OK)
		case "h":
			wantExpr(t, "resume ( "+x.text+" , 1 )", api.OK)
			wantExpr(t, "resume ( "+x.text+" , true )", api.ErrType)
			wantExpr(t, "alive ( "+x.text+" )", api.OK)
		default:
			wantExpr(t, "resume ( "+x.text+" , 1 )", api.ErrType)
			wantExpr(t, "resume ( "+x.text+" , none )", api.ErrType)
			wantExpr(t, "alive ( "+x.text+" )", api.ErrType)
		}
	}
	wantExpr(t, "resume ( p ( ) , none )", api.ErrMany)
	wantExpr(t, "resume ( vg , none )", api.ErrName)
	wantExpr(t, "resume ( vg , vg )", api.ErrType)
	wantExpr(t, "alive ( none )", api.ErrName)
	wantExpr(t, "not alive ( vg )", api.OK)
	wantExpr(t, "- alive ( vg )", api.ErrType)
}

func TestC4WhatWasStartedIsPassedOn(t *testing.T) {
	wantOwners(t, `gen up ( from num ) takes num yields num { while true { from = from + yield ( from ) ; } }
		fn twice ( u up , n num ) num { return resume ( u , n ) + resume ( u , n ) ; }
		task t { let u = start up ( 1 ) ; if alive ( u ) { out twice ( u , 2 ) ; u = start up ( 3 ) ; } }`)
}
