package vm_test

import (
	"fmt"
	"testing"

	"yieldshape/api"
)

// TestI3Parameters: the last one lies on top; others of the caller's words stay.
func TestI3Parameters(t *testing.T) {
	for params := range api.MaxArgs + 1 {
		var lay, tell string
		var want []int64
		for n := range params {
			lay = row(lay, fmt.Sprintf("push %d", 10+n))
			tell = row(tell, fmt.Sprintf("load %d, out", n))
			want = append(want, int64(10+n))
		}
		for more := range 3 {
			what := fmt.Sprint(params, " parameters, ", more, " other locals")
			put := row("push 66, store 0, push 55", lay)
			m := module(task(row(put, "call 1, out, out, load 0, out, end"), number), fn(params, params+more, row(tell, "push 77, ret")))
			wantDone(t, what, m, append(want, 77, 55, 66)...)
			m = module(task(row(put, "start 1, push 0, resume, out, out, load 0, out, end"), number), generator(params, params+more, row(tell, "push 78, yield, drop, end")))
			wantDone(t, what, m, append(want, 78, 55, 66)...)
		}
	}
}

// TestI3EachCallHasItsOwnLocals: what a call stores is neither its caller's nor another call's.
func TestI3EachCallHasItsOwnLocals(t *testing.T) {
	wantText(t, `
fn f ( n num ) num {
  let a = n * 10 ;
  if n > 0 { do f ( n - 1 ) ; let b = n ; a = a + b ; }
  n = n + 100 ;
  out a ;
  return n ;
}
task t { let a = 5 ; let b = f ( 3 ) ; out a ; out b ; }`, 0, 0, 11, 22, 33, 5, 103)
}

func TestI3Return(t *testing.T) {
	wantText(t, "fn f ( a num , b num ) num { while true { if a < b { return b - a ; } a = a - b ; } } task t { out 1 + f ( 20 , 6 ) * 2 ; }", 0, 9)
	wantText(t, "fn f ( ) num { } fn g ( ) bool { } task t { out f ( ) ; out g ( ) ; }", 0, 0, 0)
	wantText(t, "fn fib ( n num ) num { if n < 2 { return n ; } return fib ( n - 1 ) + fib ( n - 2 ) ; } task t { out fib ( 10 ) ; }", 0, 55)
	wantText(t, "fn even ( n num ) bool { if n == 0 { return true ; } return odds ( n - 1 ) ; } fn odds ( n num ) bool { if n == 0 { return false ; } return even ( n - 1 ) ; } task t { out even ( 7 ) ; out even ( 8 ) ; }", 0, 0, 1)
	m := module(task("call 1, out, end"), fn(0, 0, "push 4, ret"))
	if r := solo(t, "steps", m); r.Steps != 5 {
		t.Errorf("a call and its return: %d steps", r.Steps)
	}
}

// down is a function that is at work n + 1 times at once.
const down = "fn down ( n num ) num { if n == 0 { return 7 ; } return down ( n - 1 ) ; } "

// TestI3UnitsAtWork: MaxFrames of a thread, each thread for itself; those that are gone do not count.
func TestI3UnitsAtWork(t *testing.T) {
	const most = api.MaxFrames - 2 // beside down(0), and the unit that calls
	twice := down + "task t { out down ( %d ) ; out down ( %d ) ; }"
	wantText(t, fmt.Sprintf(twice, most, most), 0, 7, 7)
	wantText(t, fmt.Sprintf(twice, most, most+1), api.TrapStack, 7)
	within := down + "gen g ( n num ) takes num yields num { out down ( n ) ; } fn f ( n num ) num { if n == 0 { do resume ( start g ( %d ) , 0 ) ; return 0 ; } return f ( n - 1 ) ; } task t { out f ( %d ) ; }"
	wantText(t, fmt.Sprintf(within, most, most), 0, 7, 0)
	wantText(t, fmt.Sprintf(within, most+1, most), api.TrapStack)
	wantText(t, fmt.Sprintf(within, most, most+1), api.TrapStack)
	for n := range 3 {
		m := module(task(row(repeated("push 1, drop", n), "call 1, out, end")), fn(0, 0, "call 1, ret"))
		wantTrap(t, "without end", m, api.TrapStack, 2*n+api.MaxFrames)
	}
	wantText(t, "fn f ( ) num { return 1 ; } task t { let i = 0 ; while i < 100 { do f ( ) ; i = i + 1 ; } out i ; }", 0, 100)
}

// TestI3Starts: MaxCos in all, whoever starts them, at their end or not.
func TestI3Starts(t *testing.T) {
	loop := "gen g ( ) takes num yields num { } task t { let i = 0 ; while i < %d { %s i = i + 1 ; } out i ; }"
	for _, do := range []string{"do start g ( ) ;", "let h = start g ( ) ;", "do resume ( start g ( ) , 1 ) ;"} {
		wantText(t, fmt.Sprintf(loop, api.MaxCos, do), 0, api.MaxCos)
		wantText(t, fmt.Sprintf(loop, api.MaxCos+1, do), api.TrapMany)
	}
	chain := "gen g ( n num ) takes num yields num { if n > 1 { do resume ( start g ( n - 1 ) , 0 ) ; } out n ; } task t { do resume ( start g ( %d ) , 0 ) ; %s out 99 ; }"
	var all []int64
	for n := range api.MaxCos {
		all = append(all, int64(n+1))
	}
	wantText(t, fmt.Sprintf(chain, api.MaxCos, ""), 0, append(all, 99)...)
	wantText(t, fmt.Sprintf(chain, api.MaxCos, "do start g ( 1 ) ;"), api.TrapMany, all...)
	wantText(t, fmt.Sprintf(chain, api.MaxCos+1, ""), api.TrapMany)
	m := module(task(row(repeated("push 1, start 1, drop", 31), "end")), generator(1, 1, "end"))
	wantTrap(t, "steps", m, api.TrapMany, 92)
}

// TestI3Passed: the first word is lost, each other one is what comes of the yield at which the generator was held.
func TestI3Passed(t *testing.T) {
	wantText(t, `
gen g ( a num ) takes num yields num { let s = a ; while true { let x = yield ( s ) ; out x ; s = s + x ; } }
task t { let h = start g ( 100 ) ; out resume ( h , 1 ) ; out resume ( h , 2 ) ; out resume ( h , 3 ) ; }`, 0, 100, 2, 102, 3, 105)
	wantText(t, "gen g ( ) takes num yields bool { out yield ( true ) - yield ( false ) ; } task t { let h = start g ( ) ; out resume ( h , 1 ) ; out resume ( h , 20 ) ; out resume ( h , 3 ) ; }", 0, 1, 0, 17, 0)
	wantText(t, "gen g ( ) takes bool yields num { if yield ( 1 ) { out 5 ; } else { out 6 ; } } task t { let h = start g ( ) ; do resume ( h , true ) ; do resume ( h , false ) ; }", 0, 6)
	// Started, but never resumed: nothing of it is done.
	wantText(t, "gen g ( ) takes num yields num { out 1 ; } task t { do start g ( ) ; out 2 ; }", 0, 2)
}

// TestI3EachThreadForItself: two of one generator, by turns, and what each holds above its locals.
func TestI3EachThreadForItself(t *testing.T) {
	wantText(t, `
gen g ( k num ) takes num yields num { let i = k ; while true { i = i + k * yield ( i ) ; } }
task t {
  let a = start g ( 1 ) ; let b = start g ( 10 ) ;
  out resume ( a , 0 ) ; out resume ( b , 0 ) ; out resume ( a , 2 ) ; out resume ( b , 3 ) ; out resume ( b , 1 ) ; out resume ( a , 5 ) ;
  let c = a ; a = b ; out resume ( c , 1 ) ; out resume ( a , 1 ) ;
}`, 0, 1, 10, 3, 40, 50, 8, 9, 60)
}

func TestI3EndAndAlive(t *testing.T) {
	wantText(t, "gen g ( ) takes num yields num { do yield ( 4 ) ; } task t { let h = start g ( ) ; out alive ( h ) ; out resume ( h , 1 ) ; out alive ( h ) ; out resume ( h , 1 ) ; out alive ( h ) ; out alive ( h ) ; out resume ( h , 1 ) ; out 5 ; }", api.TrapDone, 1, 4, 1, 0, 0, 0)
	wantText(t, "gen g ( ) takes bool yields bool { } task t { let h = start g ( ) ; out resume ( h , true ) ; out alive ( h ) ; do resume ( h , true ) ; }", api.TrapDone, 0, 0)
	wantText(t, "gen g ( ) takes num yields num { out 1 ; stop ; } task t { let h = start g ( ) ; out 10 + resume ( h , 3 ) ; stop ; out 7 ; }", 0, 1, 10)
	m := module(task("start 1, push 0, resume, out, end"), generator(0, 0, "end"))
	if r := solo(t, "steps", m); r.State != api.Done || r.Steps != 6 {
		t.Errorf("a generator that ends at once: %+v", r)
	}
	m = module(task("start 1, store 0, load 0, push 0, resume, drop, load 0, push 0, resume, drop, end", api.Handle+1), generator(0, 0, "end"))
	wantTrap(t, "steps", m, api.TrapDone, 10)
}

// TestI3Resumer: a generator goes back to whoever resumed it last, be that the task, another generator, or a function that one of them calls.
func TestI3Resumer(t *testing.T) {
	wantText(t, `
gen inner ( ) takes num yields num { let i = 1 ; while true { out 100 + yield ( i ) ; i = i + 1 ; } }
gen outer ( h inner ) takes num yields num { let x = 0 ; while true { x = yield ( resume ( h , 20 ) * 10 ) ; } }
fn twice ( h inner ) num { return resume ( h , 30 ) + resume ( h , 31 ) ; }
task t {
  let h = start inner ( ) ; let o = start outer ( h ) ;
  out resume ( h , 0 ) ; out resume ( o , 0 ) ; out resume ( h , 40 ) ; out twice ( h ) ; out resume ( o , 0 ) ; out alive ( o ) ;
}`, 0, 1, 120, 20, 140, 3, 130, 131, 9, 120, 60, 1)
	// The inner one ends within the outer one: that goes on, with nought.
	wantText(t, `
gen inner ( ) takes num yields num { }
gen outer ( h inner ) takes num yields num { out resume ( h , 1 ) ; do yield ( 5 ) ; out alive ( h ) ; do resume ( h , 1 ) ; }
task t { let h = start inner ( ) ; let o = start outer ( h ) ; out resume ( o , 1 ) ; out alive ( h ) ; out resume ( o , 1 ) ; }`, api.TrapDone, 0, 5, 0, 0)
}

// TestI3TrapsWithin: a trap within a generator or a function is the task's.
func TestI3TrapsWithin(t *testing.T) {
	wantText(t, "gen g ( ) takes num yields num { out 1 % 0 ; } task t { out 3 ; do resume ( start g ( ) , 0 ) ; out 4 ; }", api.TrapZero, 3)
	wantText(t, "fn f ( n num ) num { return 1 / n ; } task t { out f ( 1 ) ; out f ( 0 ) ; out 4 ; }", api.TrapZero, 1)
}

// TestI3BoxesWithin: what generators and functions send and receive is the task's; it waits where they do.
func TestI3BoxesWithin(t *testing.T) {
	const text = `
box a num 1 ;
box b num 1 ;
fn f ( ) num { return recv ( b ) ; }
gen g ( ) takes num yields num { while true { let x = recv ( b ) ; send a x * 2 ; do yield ( f ( ) ) ; } }
task t { let h = start g ( ) ; while true { out resume ( h , 0 ) ; } }`
	m := compiled(t, text)
	feed := []int64{1, 2, 3, 4}
	for n, want := range []api.Report{
		{State: api.Waiting, Box: 1, Sent: [][]int64{nil, nil}, Took: []int{0, 0}},
		{State: api.Waiting, Box: 1, Sent: [][]int64{{2}, nil}, Took: []int{0, 1}},
		{State: api.Waiting, Box: 1, Out: []int64{2}, Sent: [][]int64{{2}, nil}, Took: []int{0, 2}},
		{State: api.Waiting, Box: 1, Out: []int64{2}, Sent: [][]int64{{2, 6}, nil}, Took: []int{0, 3}},
		{State: api.Waiting, Box: 1, Out: []int64{2, 4}, Sent: [][]int64{{2, 6}, nil}, Took: []int{0, 4}},
	} {
		// Nine up to recv, seven from there to that of f, fourteen from there round to the first one.
		want.Steps = 9 + (n+1)/2*7 + n/2*14
		wantReport(t, text, m, 0, [][]int64{{9}, feed[:n]}, api.MaxSolo, want)
	}
}
