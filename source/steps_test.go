package source_test

import (
	"fmt"
	"strings"
	"testing"

	"yieldshape/api"
)

// TestK1Nodes: statements and expressions, each time that one is come to.
func TestK1Nodes(t *testing.T) {
	for _, c := range []struct {
		body string
		want int
	}{
		{"", 0},
		{"let x = 1 ;", 2},
		{"let x = 1 ; x = x ;", 4},
		{"let x = 1 ; x = x + 1 ; out x ;", 8},
		{"stop ;", 1},
		{"stop ; out 1 ;", 1},
		{"out true ;", 2},
		{"out - - 1 ;", 4},
		{"out not not not false ;", 5},
		{"out 1 + 2 * 3 ;", 6},
		{"out ( 1 + 2 ) * 3 ;", 6}, // brackets make nothing
		{"out 1 == 2 ;", 4},
		{"do 1 ;", 2},
		{"if true { }", 2},
		{"if true { out 1 ; }", 4},
		{"if false { out 1 ; }", 2},
		{"if false { out 1 ; } else { out 2 ; out 3 ; }", 6},
		{"if true { out 1 ; } else { out 2 ; out 3 ; }", 4},
		{"if not true { } else { }", 3},
		// Both kids are come to, whatever the first one is.
		{"out true or false ;", 4},
		{"out false and 1 == 1 ;", 6},
	} {
		wantSteps(t, "task t { "+c.body+" }", c.want)
	}
}

// TestK1While: the statement is come to once, its condition each time that it is asked, with all that is in it.
func TestK1While(t *testing.T) {
	wantSteps(t, "task t { while false { } }", 2)
	wantSteps(t, "task t { while false { out 1 ; } out 2 ; }", 4)
	wantSteps(t, "task t { while not true { out 1 ; } }", 3)
	for n := range 40 {
		wantSteps(t, fmt.Sprintf("task t { let i = 0 ; while i < %d { i = i + 1 ; } }", n), 2+1+3*(n+1)+4*n)
		wantSteps(t, fmt.Sprintf("task t { let i = 0 ; while i != %d and true { i = i + 1 ; } }", n), 2+1+5*(n+1)+4*n)
	}
	// A statement within is come to each time.
	wantSteps(t, "task t { let i = 0 ; while i < 3 { while false { } i = i + 1 ; } }", 2+1+3*4+3*(2+4))
	wantSteps(t, "task t { let i = 0 ; while i < 3 { let j = 0 ; while j < 2 { j = j + 1 ; } i = i + 1 ; } }", 2+1+3*4+3*(2+1+3*3+2*4+4))
	wantSteps(t, "task t { while true { stop ; } }", 3)
	wantSteps(t, "fn f ( ) num { while true { return 1 ; } } task t { do f ( ) ; }", 2+2+2)
}

// TestK1NodesOfUnits: a call, a start and a resume are one node beside their kids; bodies are come to as they go on.
func TestK1NodesOfUnits(t *testing.T) {
	wantSteps(t, "fn f ( ) num { } task t { }", 0)
	wantSteps(t, "fn f ( ) num { } task t { out f ( ) ; }", 2)
	wantSteps(t, "fn f ( a num , b bool ) num { out a ; } task t { out f ( 1 + 1 , true ) ; }", 2+3+1+2)
	wantSteps(t, "fn f ( ) num { return 1 ; out 2 ; } task t { out f ( ) ; out f ( ) ; }", 2*(2+2))
	wantSteps(t, "gen g ( ) takes num yields num { out 1 ; } task t { do start g ( ) ; }", 2)
	wantSteps(t, "gen g ( n num ) takes num yields num { out n ; } task t { do start g ( 1 + 1 ) ; }", 2+3)
	g := "gen g ( ) takes num yields num { out 1 ; do yield ( 2 ) ; out 3 ; } "
	wantSteps(t, g+"task t { let h = start g ( ) ; do resume ( h , 0 ) ; }", 2+4+2+3)
	wantSteps(t, g+"task t { let h = start g ( ) ; do resume ( h , 0 ) ; do resume ( h , 0 ) ; }", 2+4+2+3+4+2)
	wantSteps(t, g+"task t { let h = start g ( ) ; out alive ( h ) ; }", 2+3)
	wantSteps(t, "gen g ( ) takes num yields num { stop ; out 1 ; } task t { out resume ( start g ( ) , 0 ) ; }", 4+1)
}

// TestK1NodesOfWhoStands: a node at which a task waits is come to once, however long it waits; what comes after it is not.
func TestK1NodesOfWhoStands(t *testing.T) {
	wantSteps(t, "box b num 1 ; task t { out 1 + recv ( b ) + 2 ; }", 5)
	wantSteps(t, "box b num 1 ; task t { send b 1 ; send b 2 + 3 ; out 1 ; }", 2+4)
	wantSteps(t, "task t { out 1 + 1 / 0 + 2 ; out 1 ; }", 7)
	wantSteps(t, "box b num 1 ; task t { out 1 + recv ( b ) + 2 ; } task s { let i = 0 ; while i < 9 { i = i + 1 ; } send b 1 ; }", 6+2+1+3*10+4*9+2)
	wantSteps(t, "box b num 1 ; task s { send b 1 ; send b 2 ; send b 3 ; } task t { let i = 0 ; while i < 9 { i = i + 1 ; } do recv ( b ) ; do recv ( b ) ; }", 6+2+1+3*10+4*9+4)
}

// rounds is a task that comes to 6 and 7 times n nodes, and then to what stands behind.
func rounds(name string, n int, behind string) string {
	return fmt.Sprintf("task %s { let i = %d ; while i > 0 { i = i - 1 ; } %s } ", name, n, behind)
}

// TestK1MaxWork: just as many are none too many; one more is, whatever it is.
func TestK1MaxWork(t *testing.T) {
	const n = (api.MaxWork - 6 - 4) / 7
	const rest = api.MaxWork - 6 - 7*n // nodes: at least 4
	out := "out " + strings.Repeat("- ", rest-2)
	wantWorld(t, rounds("t", n, out+"1 ;"), api.MaxWork, nil, done(int64(1-2*(rest%2))))
	tooMany := fault(api.ErrSteps, 0)
	wantFault(t, rounds("t", n, out+"- 1 ;"), tooMany)
	wantFault(t, rounds("t", n, out+"1 ; stop ;"), tooMany)
	wantFault(t, rounds("t", n, out+"1 ; out 1 ;"), tooMany)
	// A trap, and one that waits, are come to as well.
	trap := "out " + strings.Repeat("- ", rest-4)
	wantWorld(t, rounds("t", n, trap+"( 1 / 0 ) ;"), api.MaxWork, nil, trapped(api.TrapZero))
	wantFault(t, rounds("t", n, trap+"( 1 / - 0 ) ;"), tooMany)
	wantWorld(t, "box b num 1 ; "+rounds("t", n, out+"recv ( b ) ;"), api.MaxWork, in(nil), waiting(0))
	wantFault(t, "box b num 1 ; "+rounds("t", n, out+"- recv ( b ) ;"), tooMany)
}

// TestK1MaxWorkOfAll: all tasks' nodes together, in whatever order.
func TestK1MaxWorkOfAll(t *testing.T) {
	const n = (api.MaxWork - 12 - 8) / 7
	rest := api.MaxWork - 12 - 7*n
	for _, first := range []int{0, 1, n / 2, n} {
		for _, k := range []int{rest, rest + 1} {
			text := rounds("a", first, "") + rounds("b", n-first, "out "+strings.Repeat("- ", k-2)+"0 ;")
			if k == rest {
				wantWorld(t, text, api.MaxWork, nil, done(), done(0))
			} else {
				wantFault(t, text, fault(api.ErrSteps, 0))
			}
		}
	}
}

// TestK1WithoutEnd: whatever never comes to rest comes to too many.
func TestK1WithoutEnd(t *testing.T) {
	for _, text := range []string{
		"task t { while true { } }",
		"task t { } task u { while true { out 1 ; } } task v { out 1 / 0 ; }",
		"box b num 1 ; task t { while true { } } task u { out recv ( b ) ; }",
		"box b num 1 ; task t { while true { send b 1 ; } } task u { while true { do recv ( b ) ; } }",
		"box b num 1 ; task t { send b 1 ; while true { send b recv ( b ) ; } }",
		"fn f ( ) num { return f ( ) ; } task t { do f ( ) ; }",
		"fn f ( ) num { do f ( ) ; } task t { do f ( ) ; }",
		"fn f ( n num ) num { return 1 + g ( n + 1 ) ; } fn g ( n num ) num { return f ( n ) * 2 ; } task t { out f ( 1 ) ; }",
		"gen g ( ) takes num yields num { while true { do yield ( 1 ) ; } } task t { let h = start g ( ) ; while true { do resume ( h , 1 ) ; } }",
		"gen g ( ) takes num yields num { while true { } } task t { do resume ( start g ( ) , 0 ) ; }",
	} {
		wantFault(t, text, fault(api.ErrSteps, 0))
	}
}
