package source_test

import (
	"runtime/debug"
	"testing"

	"yieldshape/api"
	"yieldshape/source"
)

// TestPiecesDontPileUp: what comes after each other doesn't lie one above the other on the language's own stack, which has little room here (a program that needs more of it dies).
func TestPiecesDontPileUp(t *testing.T) {
	var all [][]api.Def
	for _, text := range []string{
		rounds("t", 2800, ""),
		"fn f ( n num ) num { if n == 0 { return 0 ; } return 1 + f ( n - 1 ) ; } task t { out f ( 1800 ) ; }",
		"fn f ( n num ) num { if n == 0 { return 0 ; } return f ( n - 1 ) ; } task t { out f ( 2200 ) ; }",
		"fn f ( n num ) num { if n > 0 { do f ( n - 1 ) ; } } task t { do f ( 1900 ) ; }",
		"gen g ( ) takes num yields num { while true { do yield ( 1 ) ; } } task t { let h = start g ( ) ; let i = 0 ; while i < 1200 { do resume ( h , 0 ) ; i = i + 1 ; } }",
		"box b num 1 ; task t { let i = 0 ; while i < 1000 { send b i ; i = i + 1 ; } } task u { while true { do recv ( b ) ; } }",
	} {
		all = append(all, read(t, text))
	}
	defer debug.SetMaxStack(debug.SetMaxStack(256 << 10))
	finished := make(chan bool)
	go func() { // one whose stack is small yet
		defer close(finished)
		for _, l := range all {
			if w, f := source.Play(l); f.Err != api.OK || w.Steps < 10000 {
				t.Errorf("%s: %d nodes, %v: that tells too little", text(l), w.Steps, f)
			}
		}
	}()
	<-finished
}
