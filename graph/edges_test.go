package graph_test

import (
	"testing"

	"yieldshape/api"
	"yieldshape/syn"
)

// TestO1Edges: a box with one who sends and one who receives is one.
func TestO1Edges(t *testing.T) {
	wantEdges(t, "box b num 2 ; task a { send b 1 ; } task c { out recv ( b ) ; }", "b a c")
	wantEdges(t, "box b num 2 ; task c { out recv ( b ) ; } task a { send b 1 ; }", "b a c")
	wantEdges(t, "box b bool 20 ; task c { while recv ( b ) { } } task a { send b true ; }", "b a c")
	wantEdges(t, "task t { out 1 ; }", "")
}

// TestO1EdgesOneIsMissing: such a box is left out, and those around it aren't.
func TestO1EdgesOneIsMissing(t *testing.T) {
	wantEdges(t, "box b num 1 ; task t { out 1 ; }", "")
	wantEdges(t, "box b num 1 ; task t { send b 1 ; }", "")
	wantEdges(t, "box b num 1 ; task t { out recv ( b ) ; }", "")
	wantEdges(t, `box o num 1 ; box p num 1 ; box q num 1 ; box r num 1 ; box s num 1 ;
		task a { send p 1 ; send q 1 ; send s 1 ; } task b { out recv ( r ) + recv ( q ) + recv ( s ) ; }`, "q a b s a b")
}

// TestO1EdgesInTheOrderOfBoxes: as they stand among the definitions, whatever their names and their tasks are.
func TestO1EdgesInTheOrderOfBoxes(t *testing.T) {
	wantEdges(t, `task a { out recv ( y ) ; send z 1 ; } box z num 1 ; task b { out recv ( z ) ; send x 1 ; }
		fn f ( ) num { return 1 ; } box x num 1 ; task c { out recv ( x ) ; send y 1 ; } box y num 1 ;`, "z a b x b c y c a")
	wantEdges(t, `task a { out recv ( y ) ; send z 1 ; } box y num 1 ; box x num 1 ; task b { out recv ( z ) ; send x 1 ; }
		task c { out recv ( x ) ; send y 1 ; } box z num 1 ;`, "y c a x b c z a b")
}

// TestO1EdgesSeveral: of the same two tasks each box is one, there and back; of one task, too.
func TestO1EdgesSeveral(t *testing.T) {
	wantEdges(t, `box p num 1 ; box q num 1 ; box r num 1 ; box s num 1 ;
		task a { send p 1 ; send r recv ( q ) ; } task b { send q recv ( p ) + recv ( r ) ; send s 1 ; out recv ( s ) ; }`, "p a b q b a r a b s b b")
	wantEdges(t, "box p num 1 ; task a { send p recv ( p ) ; }", "p a a")
}

// TestO1EdgesWhoSpeaks: by the functions and generators of a task, whether they are ever come to or not; not by those of nobody.
func TestO1EdgesWhoSpeaks(t *testing.T) {
	wantEdges(t, `box p num 1 ; box q num 1 ;
		fn f ( ) num { send p 1 ; return g ( ) ; } fn g ( ) num { return f ( ) + recv ( q ) ; }
		gen h ( ) takes num yields num { send q recv ( p ) ; }
		task a { while false { out g ( ) ; } } task b { stop ; do start h ( ) ; }`, "p a b q b a")
	wantEdges(t, `box p num 1 ; fn f ( ) num { return recv ( p ) ; } fn g ( ) num { return f ( ) ; } task a { send p 1 ; }`, "")
	wantEdges(t, `box p num 1 ; fn f ( ) num { send p 1 ; return 1 ; } task a { do f ( ) ; } task b { out recv ( p ) ; }`, "p a b")
}

// TestO1Faults: what Owners says.
func TestO1Faults(t *testing.T) {
	wantFault(t, "nothing", nil, api.ErrNone, 0)
	wantFault(t, "an empty definition", []api.Def{{}}, api.ErrKind, 0)
	wantFault(t, "a wrong name", []api.Def{{Kind: api.DTask, Name: "t"}, {Kind: api.DTask, Name: "task"}}, api.ErrName, 1)
	wantFault(t, "too many", make([]api.Def, api.MaxDefs+1), api.ErrMany, 0)
	for text, want := range map[string]api.Fault{
		"box b num 1 ; fn f ( ) num { return 1 ; }":                                                                                {Err: api.ErrNone, At: 2},
		"task a { } box b num 1 ; task a { }":                                                                                      {Err: api.ErrName, At: 2},
		"task a { } gen g ( p num , p num ) takes num yields num { }":                                                              {Err: api.ErrName, At: 1},
		"task a { out 1 ; } task b { out x ; }":                                                                                    {Err: api.ErrName, At: 1},
		"box b bool 1 ; task a { send b 1 ; }":                                                                                     {Err: api.ErrType, At: 1},
		"box p num 1 ; box q num 1 ; task a { send q 1 ; } task b { send q 1 ; }":                                                  {Err: api.ErrFit, At: 1},
		"task a { out recv ( q ) ; } task b { out f ( ) ; } fn f ( ) num { return recv ( q ) ; } box q num 1 ;":                    {Err: api.ErrFit, At: 3},
		"box q num 1 ; task a { send q 1 ; } task b { send q 1 ; } fn f ( ) num { return true ; }":                                 {Err: api.ErrType, At: 3},
		"box q num 1 ; box p num 1 ; task a { out recv ( p ) ; send q 1 ; } task b { send p 1 ; send q 2 ; out recv ( p ) + 1 ; }": {Err: api.ErrFit, At: 0},
	} {
		wantFault(t, text, read(t, text), want.Err, want.At)
	}
}

// TestO1FaultsAreThoseOfWrong: ahead of all that is asked of names and types.
func TestO1FaultsAreThoseOfWrong(t *testing.T) {
	l := read(t, "box b num 1 ; task a { out x ; } task a { send b true ; }")
	l[2].Body[0].X.Kids = []api.Expr{{Kind: api.EBool}}
	l[0].Cap = api.MaxCap + 1
	f := syn.Wrong(l)
	if f.Err == api.OK {
		t.Fatal("nothing is wrong")
	}
	wantFault(t, "wrong definitions", l, f.Err, f.At)
}
