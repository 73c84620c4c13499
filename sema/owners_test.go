package sema_test

import (
	"strconv"
	"strings"
	"testing"

	"yieldshape/api"
	"yieldshape/sema"
)

func TestC1Owners(t *testing.T) {
	const boxes = "box a num 1 ; box b num 2 ; "
	wantOwners(t, boxes+"task t { }", owner("a", "", ""), owner("b", "", ""))
	wantOwners(t, boxes+"task t { send a 1 ; } task u { do recv ( a ) ; }", owner("a", "t", "u"), owner("b", "", ""))
	wantOwners(t, boxes+"task t { send b recv ( a ) ; } task u { send a recv ( b ) ; }", owner("a", "u", "t"), owner("b", "t", "u"))
	wantOwners(t, boxes+"task t { send a recv ( a ) ; }", owner("a", "t", "t"), owner("b", "", ""))
	// as often as it likes
	wantOwners(t, boxes+"task t { send a recv ( a ) ; send a recv ( a ) + recv ( a ) ; }", owner("a", "t", "t"), owner("b", "", ""))
	// boxes in their order, wherever they stand
	wantOwners(t, "task t { send z 1 ; send c 1 ; } box z num 1 ; task u { do recv ( c ) ; } box c num 1 ; box m bool 1 ;",
		owner("z", "t", ""), owner("c", "t", "u"), owner("m", "", ""))
}

// TestC2EachPlace: what is in a body counts wherever it stands, whether it is come to or not.
func TestC2EachPlace(t *testing.T) {
	sends := []string{
		"@", "if true { @ }", "if true { } else { @ }", "if false { @ }", "while true { @ }", "while false { if false { } else { while false { @ } } }", "stop ; @",
	}
	for _, s := range sends {
		wantOwners(t, "box a num 1 ; task t { "+named(s, "send a 1 ;")+" } task u { }", owner("a", "t", ""))
		wantOwners(t, "box a num 1 ; task u { } task t { "+named(s, "do recv ( a ) ;")+" }", owner("a", "", "t"))
	}
	const about = "fn f ( n num , c bool ) num { } gen g ( n num ) takes num yields num { } box a num 1 ; box b bool 1 ; task t { let x = 1 ; let h = start g ( 1 ) ; @ } task u { }"
	for _, x := range []string{
		"@", "- @", "not ( @ == 1 )", "1 + @", "@ + 1", "@ < 1 and true", "true or @ == @", "f ( @ , true )", "f ( 1 , @ != 2 )", "f ( 1 , f ( @ , true ) < 1 )",
		"start g ( @ )", "resume ( start g ( @ ) , 1 )", "resume ( h , @ )", "alive ( start g ( @ ) )",
	} {
		wantOwners(t, named(about, "do "+strings.ReplaceAll(x, "@", "recv ( a )")+" ;"), owner("a", "", "t"), owner("b", "", ""))
	}
	for _, s := range []string{"let y = @ ;", "x = @ ;", "if @ == 1 { }", "while @ == 1 { }", "send a @ ;", "send b 1 == @ ;", "out @ ;", "do @ ;"} {
		l := read(t, named(about, strings.ReplaceAll(s, "@", "recv ( a )")))
		owners, f := sema.Owners(l)
		if f.Err != api.OK || owners[0].Reader != "t" {
			t.Errorf("%s: %v, %v", s, owners, f)
		}
	}
	wantOwners(t, "box a num 1 ; gen g ( ) takes num yields num { do yield ( recv ( a ) ) ; } fn f ( ) num { return 1 ; } task t { do start g ( ) ; }", owner("a", "", "t"))
	wantOwners(t, "box a num 1 ; fn f ( ) num { return recv ( a ) ; } task t { do f ( ) ; }", owner("a", "", "t"))
}

func TestC2ByOthers(t *testing.T) {
	const boxes = "box a num 1 ; box b num 2 ; "
	// by a function, by a generator
	wantOwners(t, boxes+"fn f ( ) num { send a recv ( b ) ; } task t { do f ( ) ; } task u { }", owner("a", "t", ""), owner("b", "", "t"))
	wantOwners(t, boxes+"gen g ( ) takes num yields num { send a recv ( b ) ; } task u { } task t { do start g ( ) ; }", owner("a", "t", ""), owner("b", "", "t"))
	// one that nobody calls
	wantOwners(t, boxes+"fn f ( ) num { send a recv ( b ) ; } gen g ( ) takes num yields num { send a 1 ; do f ( ) ; } task t { }", owner("a", "", ""), owner("b", "", ""))
	// by one of theirs
	wantOwners(t, boxes+`fn f ( ) num { send a 1 ; } fn h ( ) num { do f ( ) ; } gen g ( ) takes num yields num { do h ( ) ; do recv ( b ) ; }
		gen i ( ) takes num yields num { do start g ( ) ; } task t { do start i ( ) ; }`, owner("a", "t", ""), owner("b", "", "t"))
	// by two ways
	wantOwners(t, boxes+"fn f ( ) num { send a 1 ; } fn h ( ) num { do f ( ) ; } task t { do f ( ) + h ( ) ; send a 2 ; }", owner("a", "t", ""), owner("b", "", ""))
	// what resumes it does not matter
	wantOwners(t, boxes+"gen g ( ) takes num yields num { send a 1 ; } fn f ( h g ) num { return resume ( h , 1 ) ; } task t { do f ( start g ( ) ) ; } task u { }", owner("a", "t", ""), owner("b", "", ""))
	// functions stand ahead of what they call, or behind it
	wantOwners(t, "task t { do f ( ) ; } fn f ( ) num { return h ( ) ; } fn h ( ) num { return recv ( a ) ; } box a num 1 ;", owner("a", "", "t"))
}

func TestC2RoundInACircle(t *testing.T) {
	const circle = `box a num 1 ; box b num 2 ; fn f ( ) num { return h ( ) ; } fn h ( ) num { send a 1 ; return i ( ) ; }
		fn i ( ) num { do recv ( b ) ; return f ( ) ; } `
	for _, first := range []string{"f", "h", "i"} {
		wantOwners(t, circle+"task t { do "+first+" ( ) ; }", owner("a", "t", ""), owner("b", "", "t"))
		for _, second := range []string{"f", "h", "i"} {
			wantFault(t, circle+"task t { do "+first+" ( ) ; } task u { do "+second+" ( ) ; }", fault(api.ErrFit, 0))
		}
	}
	wantOwners(t, "box a num 1 ; fn f ( ) num { send a f ( ) ; } task t { do f ( ) ; }", owner("a", "t", ""))
	wantOwners(t, "box a num 1 ; gen g ( ) takes num yields num { let h = start g ( ) ; send a 1 ; } task t { do start g ( ) ; }", owner("a", "t", ""))
	// a circle that is not come to
	wantOwners(t, circle+"task t { }", owner("a", "", ""), owner("b", "", ""))
}

func TestC1TooManyOwners(t *testing.T) {
	const boxes = "box z num 1 ; task n { } box a num 1 ; box b num 1 ; "
	wantFault(t, boxes+"task t { send a 1 ; } task u { send a 1 ; }", fault(api.ErrFit, 2))
	wantFault(t, boxes+"task t { do recv ( a ) ; } task u { do recv ( a ) ; }", fault(api.ErrFit, 2))
	wantFault(t, boxes+"task t { do recv ( b ) ; } task u { do recv ( b ) ; } task v { do recv ( b ) ; }", fault(api.ErrFit, 3))
	// by whatever both call
	wantFault(t, boxes+"fn f ( ) num { send b 1 ; } task t { do f ( ) ; } task u { do f ( ) ; }", fault(api.ErrFit, 3))
	wantFault(t, boxes+"fn f ( ) num { return recv ( b ) ; } gen g ( ) takes num yields num { do f ( ) ; } task t { do start g ( ) ; } task u { do recv ( b ) ; }", fault(api.ErrFit, 3))
	// box by box
	wantFault(t, boxes+"task t { send b 1 ; do recv ( a ) ; } task u { send b 1 ; do recv ( a ) ; }", fault(api.ErrFit, 2))
	wantFault(t, boxes+"task t { send a 1 ; do recv ( b ) ; } task u { send a 1 ; do recv ( b ) ; }", fault(api.ErrFit, 2))
	// who sends may also be one who receives, but each is one
	wantFault(t, boxes+"task t { send a recv ( a ) ; } task u { send a 1 ; }", fault(api.ErrFit, 2))
	wantFault(t, boxes+"task t { send a recv ( a ) ; } task u { do recv ( a ) ; }", fault(api.ErrFit, 2))
	wantOwners(t, "box a num 1 ; task t { send a 1 ; } task u { do recv ( a ) ; }", owner("a", "t", "u"))
}

// TestC1AsManyAsThereMayBe: a row of tasks, each of which hands on to the next one.
func TestC1AsManyAsThereMayBe(t *testing.T) {
	var text strings.Builder
	var want []api.Owner
	for i := range api.MaxDefs / 2 {
		n, next := strconv.Itoa(i), strconv.Itoa((i+1)%(api.MaxDefs/2))
		text.WriteString("box b" + n + " num 1 ; task t" + n + " { send b" + next + " recv ( b" + n + " ) ; } ")
		want = append(want, owner("b"+n, "t"+strconv.Itoa((i+api.MaxDefs/2-1)%(api.MaxDefs/2)), "t"+n))
	}
	wantOwners(t, text.String(), want...)
}
