package source_test

import (
	"slices"
	"testing"

	"yieldshape/api"
	"yieldshape/sema"
	"yieldshape/source"
)

// TestK1Examples: the document's own, and others that many ways of a program come together in.
func TestK1Examples(t *testing.T) {
	wantWorld(t, "box b num 1 ; task a { send b 7 ; } task c { out recv ( b ) + 1 ; }", 6, in(nil), done(), done(8))
	wantWorld(t, `
box ping num 1 ;
box pong num 1 ;
task one {
  let x = 1 ;
  while x < 100 { send ping x ; x = recv(pong) ; out x ; }
}
task other {
  while true { send pong recv(ping) * 2 ; }
}`, 2+1+8*3+7*6+1+8*1+7*4+3, in(nil, nil), done(2, 4, 8, 16, 32, 64, 128), waiting(0))
	wantEnd(t, `
gen inner(n num) takes bool yields num {
  let i = 0 ;
  while i < n { do yield(i) ; i = i + 1 ; }
}
gen outer() takes num yields num {
  let n = yield(0) ;
  while true {
    let g = start inner(n) ;
    let s = 0 ;
    while alive(g) { s = s + resume(g, true) ; }
    n = yield(s) ;
  }
}
task main {
  let o = start outer() ;
  do resume(o, 0) ;
  out resume(o, 5) ; out resume(o, 1) ; out resume(o, 0) ; out resume(o, 4) ;
}`, done(10, 0, 0, 6))
}

// sieve is four tasks in a row.
const sieve = `
box ints num 1 ;
box odd num 1 ;
box rest num 1 ;
task numbers {
  let i = 2 ;
  while i < 26 { send ints i ; i = i + 1 ; }
}
task two {
  out 2 ;
  while true { let x = recv(ints) ; if x % 2 != 0 { send odd x ; } }
}
task three {
  out 3 ;
  while true { let x = recv(odd) ; if x % 3 != 0 { send rest x ; } }
}
task others {
  while true { let x = recv(rest) ; if x % 5 != 0 { out x ; } else { if x == 5 { out x ; } } }
}`

func TestK1Sieve(t *testing.T) {
	w := play(t, sieve)
	want := api.World{Tasks: ends(done(), waiting(0, 2), waiting(1, 3), waiting(2, 5, 7, 11, 13, 17, 19, 23)), Boxes: in(nil, nil, nil), Steps: w.Steps}
	if !same(w, want) {
		t.Errorf("%+v; want %+v", w, want)
	}
}

// TestK1Fault: what Check says, and nothing beside it.
func TestK1Fault(t *testing.T) {
	for text, want := range map[string]api.Fault{
		"":                                                          fault(api.ErrNone, 0),
		"box b num 1 ; fn f ( ) num { }":                            fault(api.ErrNone, 2),
		"task t { out x ; }":                                        fault(api.ErrName, 0),
		"box b num 1 ; task t { send c 1 ; }":                       fault(api.ErrName, 1),
		"task t { } task t { }":                                     fault(api.ErrName, 1),
		"task t { out not 1 ; }":                                    fault(api.ErrType, 0),
		"task a { } task t { return 1 ; }":                          fault(api.ErrFit, 1),
		"fn f ( ) num { stop ; } task t { }":                        fault(api.ErrFit, 0),
		"task t { out yield ( 1 ) ; }":                              fault(api.ErrFit, 0),
		"fn f ( n num ) num { } task t { out f ( ) ; }":             fault(api.ErrMany, 1),
		"box b num 1 ; task s { send b 1 ; } task t { send b 2 ; }": fault(api.ErrFit, 0),
		"task s { } box b num 1 ; fn f ( ) num { return recv ( b ) ; } task t { do f ( ) ; } task u { do f ( ) ; }": fault(api.ErrFit, 1),
		// What is wrong is told, though it would never be come to; and ahead of that there are too many nodes.
		"task t { stop ; out x ; }":                    fault(api.ErrName, 0),
		"task t { while true { } } task u { out x ; }": fault(api.ErrName, 1),
	} {
		wantFault(t, text, want)
		if f := sema.Check(read(t, text)); f != want {
			t.Errorf("%s: Check: %v; want %v", text, f, want)
		}
	}
}

// TestK1FaultByHand: programs that no text is.
func TestK1FaultByHand(t *testing.T) {
	task := api.Def{Kind: api.DTask, Name: "t"}
	with := func(s api.Stat) []api.Def { return []api.Def{{Kind: api.DTask, Name: "t", Body: []api.Stat{s}}} }
	deep := api.Expr{Kind: api.EBool}
	for range api.MaxShape {
		deep = api.Expr{Kind: api.ENot, Kids: []api.Expr{deep}}
	}
	var many []api.Def
	for n := range api.MaxDefs + 1 {
		many = append(many, api.Def{Kind: api.DTask, Name: "t" + string(rune('a'+n%26)) + string(rune('a'+n/26))})
	}
	for what, c := range map[string]struct {
		l    []api.Def
		want api.Fault
	}{
		"nothing":            {nil, fault(api.ErrNone, 0)},
		"no entries":         {[]api.Def{}, fault(api.ErrNone, 0)},
		"zero":               {[]api.Def{{}}, fault(api.ErrKind, 0)},
		"odd kind":           {[]api.Def{task, {Kind: 5, Name: "u"}}, fault(api.ErrKind, 1)},
		"no name":            {[]api.Def{{Kind: api.DTask}}, fault(api.ErrName, 0)},
		"box of 0 places":    {[]api.Def{task, {Kind: api.DBox, Name: "b", Type: api.Type{Kind: api.TyNum}}}, fault(api.ErrRange, 1)},
		"box of 21 places":   {[]api.Def{task, {Kind: api.DBox, Name: "b", Type: api.Type{Kind: api.TyNum}, Cap: 21}}, fault(api.ErrRange, 1)},
		"odd statement":      {with(api.Stat{Kind: 10}), fault(api.ErrKind, 0)},
		"odd expression":     {with(api.Stat{Kind: api.SOut, X: api.Expr{Kind: 25}}), fault(api.ErrKind, 0)},
		"no expression":      {with(api.Stat{Kind: api.SOut}), fault(api.ErrKind, 0)},
		"kids are missing":   {with(api.Stat{Kind: api.SOut, X: api.Expr{Kind: api.EAdd}}), fault(api.ErrMany, 0)},
		"nested too deep":    {with(api.Stat{Kind: api.SOut, X: deep}), fault(api.ErrMuch, 0)},
		"definitions":        {many, fault(api.ErrMany, 0)},
		"a number too great": {with(api.Stat{Kind: api.SOut, X: api.Expr{Kind: api.ENum, N: 1 << 62}}), fault(api.ErrRange, 0)},
		"a number below 0":   {with(api.Stat{Kind: api.SOut, X: api.Expr{Kind: api.ENum, N: -1}}), fault(api.ErrRange, 0)},
	} {
		wantFaultOf(t, what, c.l, c.want)
	}
}

// TestK1Stands: how each task stands in the end; a box's number is that among boxes, wherever they are defined.
func TestK1Stands(t *testing.T) {
	wantWorld(t, "task t { }", 0, nil, done())
	wantWorld(t, "task t { out 1 ; out 2 ; } task u { } task v { out 3 ; }", 6, nil, done(1, 2), done(), done(3))
	wantWorld(t, "task t { out 5 ; out 1 / 0 ; out 6 ; } task u { out 7 ; }", 8, nil, trapped(api.TrapZero, 5), done(7))
	wantWorld(t, "task t { out recv ( c ) ; } box a num 1 ; fn f ( ) num { } box b bool 1 ; gen g ( ) takes num yields num { } box c num 1 ;", 2, in(nil, nil, nil), waiting(2))
	wantWorld(t, "task t { out recv ( a ) ; } box a num 1 ; box b num 1 ;", 2, in(nil, nil), waiting(0))
	wantWorld(t, "box a num 1 ; task t { out 4 ; send b true ; send b false ; out 5 ; } box b bool 1 ;", 6, in(nil, []int64{1}), sending(1, 4))
	wantWorld(t, "box a num 1 ; task t { send a 8 ; send a 9 ; }", 4, in([]int64{8}), sending(0))
	// Box and Trap are nought of whoever waited ahead of that.
	wantWorld(t, "box a num 1 ; box b num 1 ; task t { out recv ( b ) ; send a 2 ; send a 3 ; } task u { send b 1 ; do recv ( a ) ; }", 2+2+2+2+2, in([]int64{3}, nil), done(1), done())
	wantWorld(t, "box a num 1 ; box b num 1 ; task t { out recv ( b ) / 0 ; } task u { send b 1 ; }", 6, in(nil, nil), trapped(api.TrapZero), done())
}

// TestK1Boxes: first in, first out; as many as there are places, whoever receives; what is left stays.
func TestK1Boxes(t *testing.T) {
	wantWorld(t, "box b num 3 ; task t { send b 1 ; send b 2 ; send b 3 ; } task u { }", 6, in([]int64{1, 2, 3}), done(), done())
	wantWorld(t, "box b num 3 ; task t { send b 1 ; send b 2 ; send b 3 ; send b 4 ; send b 5 ; } task u { }", 8, in([]int64{1, 2, 3}), sending(0), done())
	wantWorld(t, "box b num 3 ; task t { send b 1 ; send b 2 ; send b 3 ; send b 4 ; send b 5 ; } task u { out recv ( b ) ; }", 12, in([]int64{2, 3, 4}), sending(0), done(1))
	wantWorld(t, "box b num 3 ; task u { out recv ( b ) ; out recv ( b ) ; out recv ( b ) ; } task t { send b 1 ; send b 2 ; send b 3 ; send b 4 ; send b 5 ; }", 16, in([]int64{4, 5}), done(1, 2, 3), done())
	// To oneself.
	wantWorld(t, "box b num 2 ; task t { send b 1 ; send b 2 ; out recv ( b ) ; send b 3 ; out recv ( b ) ; out recv ( b ) ; out recv ( b ) ; }", 14, in(nil), waiting(0, 1, 2, 3))
	wantWorld(t, "box b num 1 ; task t { send b 1 ; send b recv ( b ) + 1 ; out recv ( b ) ; }", 2+4+2, in(nil), done(2))
	wantWorld(t, "box b num 1 ; task t { send b 1 ; send b 2 ; out recv ( b ) ; }", 4, in([]int64{1}), sending(0))
	// By functions and generators, however deep.
	wantWorld(t, "box b num 1 ; fn f ( ) num { send b 5 ; return 6 ; } task t { out f ( ) + f ( ) ; } task u { out recv ( b ) ; }", 2+2*5+2, in([]int64{5}), done(12), done(5))
	for cap := 1; cap <= api.MaxCap; cap++ {
		d := read(t, "box b num 1 ; task t { let i = 0 ; while true { send b i ; i = i + 1 ; } }")
		d[0].Cap = cap
		var words []int64
		for n := range cap {
			words = append(words, int64(n))
		}
		wantWorldOf(t, "without end", d, api.World{Tasks: ends(sending(0)), Boxes: in(words), Steps: 2 + 1 + cap*(1+2+4) + 1 + 2})
	}
}

// TestK1WhateverOrder: tasks that stand in another order come to the same ends.
func TestK1WhateverOrder(t *testing.T) {
	l := read(t, sieve)
	want := play(t, sieve)
	orders := [][]int{{0, 1, 2, 3}, {3, 2, 1, 0}, {1, 3, 0, 2}, {2, 0, 3, 1}, {0, 2, 1, 3}}
	for _, order := range orders {
		other := slices.Clone(l[:3])
		w := api.World{Boxes: want.Boxes, Steps: want.Steps}
		for _, n := range order {
			other = append(other, l[3+n])
			w.Tasks = append(w.Tasks, want.Tasks[n])
		}
		wantWorldOf(t, "sieve", other, w)
	}
}

// TestK1Circles: who waits for each other stands; so does whoever waits for his own word.
func TestK1Circles(t *testing.T) {
	wantWorld(t, "box a num 1 ; box b num 1 ; task s { send b recv ( a ) ; } task t { send a recv ( b ) ; }", 4, in(nil, nil), waiting(0), waiting(1))
	wantWorld(t, "box a num 1 ; box b num 1 ; task s { while true { send a 1 ; send b 2 ; } } task t { do recv ( b ) ; do recv ( b ) ; do recv ( a ) ; }", 1+1+4+1+2+2+2, in([]int64{1}, nil), sending(0), waiting(1))
	wantWorld(t, "box a num 1 ; task s { send a recv ( a ) ; }", 2, in(nil), waiting(0))
}

// TestAnswersHangOnArgumentsAlone: not on how often one asks, nor on what was asked ahead of that (Z1).
func TestAnswersHangOnArgumentsAlone(t *testing.T) {
	l := read(t, sieve)
	want, _ := source.Play(l)
	source.Play(read(t, "task t { while true { } }"))
	wantWorldOf(t, "the second time", l, want)
}
