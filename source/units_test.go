package source_test

import (
	"fmt"
	"testing"

	"yieldshape/api"
)

func TestK2Functions(t *testing.T) {
	wantEnd(t, "fn f ( a num , b num ) num { while true { if a < b { return b - a ; } a = a - b ; } } task t { out 1 + f ( 20 , 6 ) * 2 ; }", done(9))
	wantEnd(t, "fn f ( ) num { } fn g ( ) bool { } task t { out f ( ) ; out g ( ) ; out not g ( ) ; }", done(0, 0, 1))
	wantEnd(t, "fn f ( n num ) num { if n < 5 { return n ; } } task t { out f ( 4 ) ; out f ( 5 ) ; }", done(4, 0))
	wantEnd(t, "fn fib ( n num ) num { if n < 2 { return n ; } return fib ( n - 1 ) + fib ( n - 2 ) ; } task t { out fib ( 10 ) ; }", done(55))
	wantEnd(t, "fn even ( n num ) bool { if n == 0 { return true ; } return odds ( n - 1 ) ; } fn odds ( n num ) bool { if n == 0 { return false ; } return even ( n - 1 ) ; } task t { out even ( 7 ) ; out even ( 8 ) ; }", done(0, 1))
	wantEnd(t, "fn f ( a num , b bool , c num , d num , e bool , g num ) num { out a ; out b ; out c ; out d ; out e ; out g ; return 7 ; } task t { out f ( 1 , true , 3 , 4 , false , 6 ) ; }", done(1, 1, 3, 4, 0, 6, 7))
}

// TestK2EachCallHasItsOwnNames: what a call sets is neither its caller's nor another call's.
func TestK2EachCallHasItsOwnNames(t *testing.T) {
	wantEnd(t, `
fn f ( n num ) num {
  let a = n * 10 ;
  if n > 0 { do f ( n - 1 ) ; let b = n ; a = a + b ; }
  n = n + 100 ;
  out a ;
  return n ;
}
task t { let a = 5 ; let b = f ( 3 ) ; out a ; out b ; }`, done(0, 11, 22, 33, 5, 103))
	// Blocks that have ended leave their names to those behind them, of another type too.
	wantEnd(t, "task t { if true { let x = 1 ; out x ; } let i = 0 ; while i < 2 { let x = i == 1 ; out x ; i = i + 1 ; } let x = 9 ; out x ; }", done(1, 0, 1, 9))
	// Two tasks that call one function.
	wantWorld(t, "fn f ( n num ) num { n = n + 1 ; return n ; } task t { out f ( 1 ) ; } task u { out f ( 5 ) ; }", 2*(3+4+2), nil, done(2), done(6))
}

// TestK2NoBoundOfUnits: more units at work than MaxFrames, and more words than MaxWords, are no trap.
func TestK2NoBoundOfUnits(t *testing.T) {
	const down = "fn down ( n num ) num { if n == 0 { return 7 ; } return 1 + down ( n - 1 ) ; } "
	for _, n := range []int{api.MaxFrames - 2, api.MaxFrames - 1, api.MaxFrames, 5 * api.MaxFrames, 1700} {
		wantWorld(t, fmt.Sprintf("%stask t { out down ( %d ) ; }", down, n), 3+11*n+6, nil, done(int64(n+7)))
	}
	// As many locals as a unit may have, and more at work than MaxWords words are.
	text := "fn f ( n num ) num { "
	for i := range 10 {
		text += fmt.Sprintf("let a%d = n ; ", i)
	}
	text += "if n > 0 { do f ( n - 1 ) ; } return a0 + a9 ; } task t { out f ( 300 ) ; }"
	wantEnd(t, text, done(600))
	// What a unit reckons with.
	wantEnd(t, down+"task t { out 1 + ( 2 + ( 3 + ( 4 + ( 5 + down ( 900 ) + down ( 400 ) ) ) ) ) ; }", done(15+907+407))
	// Within a generator, and on the way to one.
	wantEnd(t, down+"gen g ( n num ) takes num yields num { do yield ( down ( n ) ) ; out down ( n + 1 ) ; } fn f ( n num ) num { if n == 0 { let h = start g ( 200 ) ; out resume ( h , 0 ) ; out resume ( h , 0 ) ; return 1 ; } return f ( n - 1 ) ; } task t { out f ( 200 ) ; }", done(207, 208, 0, 1))
}

// TestK2Passed: the first word is lost, each other one is what comes of the yield at which the generator was held.
func TestK2Passed(t *testing.T) {
	wantEnd(t, `
gen g ( a num ) takes num yields num { let s = a ; while true { let x = yield ( s ) ; out x ; s = s + x ; } }
task t { let h = start g ( 100 ) ; out resume ( h , 1 ) ; out resume ( h , 2 ) ; out resume ( h , 3 ) ; }`, done(100, 2, 102, 3, 105))
	wantEnd(t, "gen g ( ) takes num yields bool { out yield ( true ) - yield ( false ) ; } task t { let h = start g ( ) ; out resume ( h , 1 ) ; out resume ( h , 20 ) ; out resume ( h , 3 ) ; }", done(1, 0, 17, 0))
	wantEnd(t, "gen g ( ) takes bool yields num { if yield ( 1 ) { out 5 ; } else { out 6 ; } } task t { let h = start g ( ) ; do resume ( h , true ) ; do resume ( h , false ) ; }", done(6))
	wantEnd(t, "gen g ( ) takes num yields num { out yield ( yield ( yield ( 1 ) + 10 ) + 10 ) ; } task t { let h = start g ( ) ; out resume ( h , 0 ) ; out resume ( h , 2 ) ; out resume ( h , 3 ) ; out resume ( h , 4 ) ; }", done(1, 12, 13, 4, 0))
	// Started, but never resumed: nothing of it is done.
	wantEnd(t, "gen g ( ) takes num yields num { out 1 ; } task t { do start g ( ) ; out 2 ; }", done(2))
	// What the parameters are is reckoned where it is started.
	wantEnd(t, "gen g ( a num ) takes num yields num { do yield ( a ) ; } task t { let x = 1 ; let h = start g ( x ) ; x = 2 ; out resume ( h , 0 ) ; out x ; }", done(1, 2))
}

// TestK2EachThreadForItself: two of one generator, by turns; names stand for what was started like for all else.
func TestK2EachThreadForItself(t *testing.T) {
	wantEnd(t, `
gen g ( k num ) takes num yields num { let i = k ; while true { i = i + k * yield ( i ) ; } }
task t {
  let a = start g ( 1 ) ; let b = start g ( 10 ) ;
  out resume ( a , 0 ) ; out resume ( b , 0 ) ; out resume ( a , 2 ) ; out resume ( b , 3 ) ; out resume ( b , 1 ) ; out resume ( a , 5 ) ;
  let c = a ; a = b ; out resume ( c , 1 ) ; out resume ( a , 1 ) ;
}`, done(1, 10, 3, 40, 50, 8, 9, 60))
	// Resumed by others than who has started it: a function, another generator.
	wantEnd(t, `
gen g ( ) takes num yields num { let i = 0 ; while true { i = i + 1 ; do yield ( i ) ; } }
gen o ( h g ) takes num yields num { while true { do yield ( 10 * resume ( h , 0 ) ) ; } }
fn f ( h g ) num { return 100 * resume ( h , 0 ) ; }
task t {
  let h = start g ( ) ; let p = start o ( h ) ; let q = start o ( h ) ;
  out resume ( p , 0 ) ; out f ( h ) ; out resume ( q , 0 ) ; out resume ( h , 0 ) ; out resume ( p , 0 ) ;
}`, done(10, 200, 30, 4, 50))
}

func TestK2EndAndAlive(t *testing.T) {
	wantEnd(t, "gen g ( ) takes num yields num { do yield ( 4 ) ; } task t { let h = start g ( ) ; out alive ( h ) ; out resume ( h , 1 ) ; out alive ( h ) ; out resume ( h , 1 ) ; out alive ( h ) ; out alive ( h ) ; out resume ( h , 1 ) ; out 5 ; }", trapped(api.TrapDone, 1, 4, 1, 0, 0, 0))
	wantEnd(t, "gen g ( ) takes bool yields bool { } task t { let h = start g ( ) ; out resume ( h , true ) ; out alive ( h ) ; do resume ( h , true ) ; }", trapped(api.TrapDone, 0, 0))
	wantEnd(t, "gen g ( ) takes num yields num { out 1 ; stop ; out 2 ; } task t { let h = start g ( ) ; out 10 + resume ( h , 3 ) ; stop ; out 7 ; }", done(1, 10))
	wantEnd(t, "gen g ( ) takes num yields num { while true { if true { stop ; } } } task t { out resume ( start g ( ) , 1 ) ; while true { if true { stop ; } } }", done(0))
	// Alive while it is going: it asks through another one, to which it does not speak.
	wantEnd(t, "gen g ( ) takes num yields num { do yield ( 1 ) ; } fn f ( h g ) bool { return alive ( h ) ; } task t { let h = start g ( ) ; out f ( h ) ; do resume ( h , 0 ) ; out f ( h ) ; do resume ( h , 0 ) ; out f ( h ) ; }", done(1, 1, 0))
	// A generator's end is not the task's, nor that of its resumer.
	wantEnd(t, "gen i ( ) takes num yields num { stop ; } gen o ( ) takes num yields num { do resume ( start i ( ) , 0 ) ; out 1 ; do yield ( 5 ) ; out 2 ; } task t { let h = start o ( ) ; out resume ( h , 0 ) ; out alive ( h ) ; out resume ( h , 0 ) ; out alive ( h ) ; }", done(1, 5, 1, 2, 0, 0))
}

// TestK2Within: boxes that make a task wait within functions and generators; it goes on there.
func TestK2Within(t *testing.T) {
	wantWorld(t, `
box a num 1 ; box b num 1 ;
fn f ( ) num { return recv ( a ) * 10 ; }
gen g ( ) takes num yields num { while true { send b yield ( f ( ) + 1 ) ; } }
task t { let h = start g ( ) ; let i = 0 ; while true { out resume ( h , i ) ; i = i + 1 ; } }
task u { send a 1 ; send a 2 ; send a 3 ; out recv ( b ) ; }`,
		5+3*(1+4+4)+1+4+ // t: it stands in the fourth round
			1+3*(1+4+4+1)+ // g and f
			8, // u
		in(nil, []int64{2}), sending(1, 11, 21, 31), done(1))
}

// TestK2Starts: MaxCos in all of a task, whoever starts them, at their end or not.
func TestK2Starts(t *testing.T) {
	loop := "gen g ( ) takes num yields num { } task t { let i = 0 ; while i < %d { %s i = i + 1 ; } out i ; }"
	for _, do := range []string{"do start g ( ) ;", "let h = start g ( ) ;", "do resume ( start g ( ) , 1 ) ;"} {
		wantEnd(t, fmt.Sprintf(loop, api.MaxCos, do), done(api.MaxCos))
		wantEnd(t, fmt.Sprintf(loop, api.MaxCos+1, do), trapped(api.TrapMany))
	}
	chain := "gen g ( n num ) takes num yields num { if n > 1 { do resume ( start g ( n - 1 ) , 0 ) ; } out n ; } task t { do resume ( start g ( %d ) , 0 ) ; %s out 99 ; }"
	var all []int64
	for n := range api.MaxCos {
		all = append(all, int64(n+1))
	}
	wantEnd(t, fmt.Sprintf(chain, api.MaxCos, ""), done(append(all, 99)...))
	wantEnd(t, fmt.Sprintf(chain, api.MaxCos, "do start g ( 1 ) ;"), trapped(api.TrapMany, all...))
	wantEnd(t, fmt.Sprintf(chain, api.MaxCos+1, ""), trapped(api.TrapMany))
	// Each task has as many for itself.
	each := "task %s { let i = 0 ; while i < %d { do start g ( ) ; i = i + 1 ; } out i ; } "
	text := "gen g ( ) takes num yields num { } " + fmt.Sprintf(each, "a", api.MaxCos) + fmt.Sprintf(each, "b", api.MaxCos+1) + fmt.Sprintf(each, "c", api.MaxCos)
	nodes := 2 + 1 + 3*(api.MaxCos+1) + 6*api.MaxCos + 2 // the last two put i out, or start one too many
	wantWorld(t, text, 3*nodes, nil, done(api.MaxCos), trapped(api.TrapMany), done(api.MaxCos))
}

// TestK2TrapsComeBehindKids: what they do is done.
func TestK2TrapsComeBehindKids(t *testing.T) {
	say := "fn say ( n num ) num { out n ; return n ; } "
	wantWorld(t, say+"task t { out say ( 1 ) / say ( 0 ) ; }", 2+2*6, nil, trapped(api.TrapZero, 1, 0))
	wantWorld(t, say+"task t { out say ( 1 ) % say ( 0 ) ; out 2 ; } task u { out 3 ; }", 2+2*6+2, nil, trapped(api.TrapZero, 1, 0), done(3))
	wantEnd(t, say+"task t { out say ( 1 ) / 0 + say ( 2 ) ; }", trapped(api.TrapZero, 1))
	wantEnd(t, say+"gen g ( ) takes num yields num { } task t { let h = start g ( ) ; do resume ( h , 0 ) ; do resume ( h , say ( 5 ) ) ; }", trapped(api.TrapDone, 5))
	wantEnd(t, say+"gen g ( n num ) takes num yields num { } task t { let i = 1 ; while true { do start g ( say ( i / 30 ) ) ; i = i + 1 ; } }",
		trapped(api.TrapMany, append(make([]int64, 29), 1, 1)...))
	// Within a function, a generator: the whole task is trapped.
	wantEnd(t, "fn f ( ) num { return 1 / 0 ; } task t { out 1 ; out f ( ) ; out 2 ; }", trapped(api.TrapZero, 1))
	wantEnd(t, "gen g ( ) takes num yields num { out 1 % 0 ; } task t { out 1 ; out resume ( start g ( ) , 0 ) ; out 2 ; }", trapped(api.TrapZero, 1))
	wantEnd(t, "gen i ( ) takes num yields num { } gen g ( h i ) takes num yields num { do resume ( h , 0 ) ; do resume ( h , 0 ) ; } task t { out resume ( start g ( start i ( ) ) , 0 ) ; out 2 ; }", trapped(api.TrapDone))
}

// TestK2KidsFromTheFirst: in the order in which they stand, those of signs, calls, starts and resumes alike.
func TestK2KidsFromTheFirst(t *testing.T) {
	say := "fn say ( n num ) num { out n ; return n ; } fn tell ( b bool ) bool { out b ; return b ; } "
	for _, sign := range []string{"+", "-", "*", "/", "%", "==", "!=", "<", "<=", ">", ">="} {
		wantEnd(t, say+"task t { do say ( 1 ) "+sign+" say ( 2 ) ; }", done(1, 2))
	}
	for _, sign := range []string{"and", "or", "==", "!="} {
		for _, both := range [][2]string{{"true", "false"}, {"false", "true"}, {"true", "true"}, {"false", "false"}} {
			word := map[string]int64{"true": 1}
			wantEnd(t, say+"task t { do tell ( "+both[0]+" ) "+sign+" tell ( "+both[1]+" ) ; }", done(word[both[0]], word[both[1]]))
		}
	}
	wantEnd(t, say+"fn f ( a num , b num , c num ) num { out a * 100 + b * 10 + c ; } task t { do f ( say ( 1 ) , say ( 2 ) , say ( 3 ) ) ; }", done(1, 2, 3, 123))
	wantEnd(t, say+"gen g ( a num , b num , c num ) takes num yields num { out a * 100 + b * 10 + c ; } fn h ( ) num { do resume ( start g ( say ( 1 ) , say ( 2 ) , say ( 3 ) ) , say ( 4 ) ) ; } task t { do h ( ) ; }", done(1, 2, 3, 4, 123))
	wantEnd(t, "box b num 3 ; task t { send b 7 ; send b 3 ; out recv ( b ) - recv ( b ) ; }", done(4))
	wantEnd(t, say+"box b num 1 ; task t { send b say ( 1 ) ; send b say ( 2 ) ; }", sending(0, 1, 2))
}
