package gen_test

import (
	"testing"

	"yieldshape/api"
)

func TestH2LetSet(t *testing.T) {
	wantTask(t, "let x = 1 ; x = x + 2 ;", "push 1, store 0, load 0, push 2, add, store 0, end", number)
	wantTask(t, "let x = true ; let y = x ; x = y ; y = not x ;", "truth 1, store 0, load 0, store 1, load 1, store 0, load 0, not, store 1, end", truth, truth)
	wantUnit(t, "fn here ( a num , b num ) num { b = a ; a = 1 ; }",
		api.Unit{Kind: api.DFn, Params: 2, Locals: []int{number, number}, Result: number, Code: code("load 0, store 1, push 1, store 0, push 0, ret")})
}

func TestH2If(t *testing.T) {
	wantTask(t, "if true { }", "truth 1, else 3, jump 3, end")
	wantTask(t, "if true { } else { }", "truth 1, else 3, jump 3, end")
	wantTask(t, "if true { out 1 ; }", "truth 1, else 5, push 1, out, jump 5, end")
	wantTask(t, "if true { } else { out 1 ; }", "truth 1, else 3, jump 5, push 1, out, end")
	wantTask(t, "if not true { out 1 ; } else { out 2 ; } out 3 ;", "truth 1, not, else 6, push 1, out, jump 8, push 2, out, push 3, out, end")
	// Within each other: each goes to its own places.
	wantTask(t, "if true { if false { out 1 ; } else { out 2 ; } } else { if true { out 3 ; } else { out 4 ; } }",
		"truth 1, else 10, truth 0, else 7, push 1, out, jump 9, push 2, out, jump 17, truth 1, else 15, push 3, out, jump 17, push 4, out, end")
}

func TestH2While(t *testing.T) {
	wantTask(t, "while true { }", "truth 1, else 3, jump 0, end")
	wantTask(t, "out 1 ; while 1 < 2 { out 3 ; } out 4 ;", "push 1, out, push 1, push 2, lt, else 9, push 3, out, jump 2, push 4, out, end")
	wantTask(t, "while true { while false { stop ; } }", "truth 1, else 7, truth 0, else 6, end, jump 2, jump 0, end")
	wantTask(t, "while true { if false { stop ; } }", "truth 1, else 7, truth 0, else 6, end, jump 6, jump 0, end")
	wantTask(t, "if true { while false { } } else { while true { } }", "truth 1, else 6, truth 0, else 5, jump 2, jump 9, truth 1, else 9, jump 6, end")
}

func TestH2Others(t *testing.T) {
	wantTask(t, "stop ; stop ;", "end, end, end")
	wantTask(t, "send bn 7 ; send bb false ;", "push 7, send 0, truth 0, send 1, end")
	wantTask(t, "out 7 ; out true ;", "push 7, out, truth 1, out, end")
	wantTask(t, "do 7 ; do true ; do start k ( ) ;", "push 7, drop, truth 1, drop, start 2, drop, end")
	wantUnit(t, "fn here ( a num ) num { if a < 1 { return 2 ; } else { return a ; } }",
		api.Unit{Kind: api.DFn, Params: 1, Locals: []int{number}, Result: number, Code: code("load 0, push 1, lt, else 7, push 2, ret, jump 9, load 0, ret, push 0, ret")})
	wantUnit(t, "gen here ( ) takes num yields num { while true { stop ; } }",
		api.Unit{Kind: api.DGen, Takes: number, Result: number, Code: code("truth 1, else 4, end, jump 0, end")})
}
