package gen_test

import (
	"testing"

	"yieldshape/api"
)

func TestH3Plain(t *testing.T) {
	wantExpr(t, "0", "push 0")
	wantExpr(t, "999999999999999", "push 999999999999999")
	wantExpr(t, "true", "truth 1")
	wantExpr(t, "false", "truth 0")
	wantExpr(t, "- 7", "push 7, neg")
	wantExpr(t, "- - 7", "push 7, neg, neg")
	wantExpr(t, "not true", "truth 1, not")
	wantTask(t, "let a = 1 ; let b = true ; let c = start k ( ) ; do c ; do b ; do a ;",
		"push 1, store 0, truth 1, store 1, start 2, store 2, load 2, drop, load 1, drop, load 0, drop, end", number, truth, ofK)
}

func TestH3Two(t *testing.T) {
	for sign, word := range map[string]string{
		"+": "add", "-": "sub", "*": "mul", "/": "div", "%": "mod",
		"==": "eq", "!=": "ne", "<": "lt", "<=": "le", ">": "gt", ">=": "ge",
	} {
		wantExpr(t, "1 "+sign+" 2", "push 1, push 2, "+word)
	}
	for sign, word := range map[string]string{"==": "eq", "!=": "ne", "and": "and", "or": "or"} {
		wantExpr(t, "true "+sign+" false", "truth 1, truth 0, "+word)
	}
	// Both kids are reckoned, whatever the first one is.
	wantExpr(t, "false and recv ( bb ) or recv ( bb )", "truth 0, recv 1, and, recv 1, or")
	wantExpr(t, "1 - ( 2 - 3 ) - 4", "push 1, push 2, push 3, sub, sub, push 4, sub")
	wantExpr(t, "1 + 2 * 3 < - 4 % 5", "push 1, push 2, push 3, mul, add, push 4, neg, push 5, mod, lt")
	wantTask(t, "out 1 + 2 ;", "push 1, push 2, add, out, end")
}

func TestH3Spoken(t *testing.T) {
	wantExpr(t, "e ( )", "call 3")
	wantExpr(t, "f ( 1 , true , start g ( false ) )", "push 1, truth 1, truth 0, start 1, call 0")
	wantExpr(t, "f ( f ( 1 , e ( ) , start g ( true ) ) , false , start g ( e ( ) ) )",
		"push 1, call 3, truth 1, start 1, call 0, truth 0, call 3, start 1, call 0")
	wantExpr(t, "recv ( bn ) - recv ( bn )", "recv 0, recv 0, sub")
	wantExpr(t, "recv ( bb )", "recv 1")
	wantExpr(t, "start k ( )", "start 2")
	wantExpr(t, "alive ( start k ( ) )", "start 2, alive")
	wantExpr(t, "resume ( start g ( true ) , false )", "truth 1, start 1, truth 0, resume")
	wantExpr(t, "resume ( start k ( ) , resume ( start g ( resume ( start k ( ) , 1 ) ) , true ) )",
		"start 2, start 2, push 1, resume, start 1, truth 1, resume, resume")
	wantUnit(t, "gen here ( a num ) takes num yields num { do yield ( yield ( a ) + 1 ) ; }",
		api.Unit{Kind: api.DGen, Params: 1, Locals: []int{number}, Takes: number, Result: number, Code: code("load 0, yield, push 1, add, yield, drop, end")})
	wantUnit(t, "fn here ( a num ) num { return here ( here ( a ) ) ; }",
		api.Unit{Kind: api.DFn, Params: 1, Locals: []int{number}, Result: number, Code: code("load 0, call 4, call 4, ret, push 0, ret")})
	wantUnit(t, "gen here ( ) takes num yields num { do start here ( ) ; }",
		api.Unit{Kind: api.DGen, Takes: number, Result: number, Code: code("start 4, drop, end")})
}
