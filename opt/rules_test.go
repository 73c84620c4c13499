package opt_test

import (
	"fmt"
	"math"
	"math/big"
	"testing"

	"yieldshape/api"
)

var edges = []int64{0, 1, -1, 2, -2, 3, 7, -7, 10, 1 << 31, -1 << 31, 1 << 32, 3037000500, math.MaxInt64, math.MaxInt64 - 1, math.MinInt64, math.MinInt64 + 1}

// wrapped is the word that a great number comes to.
func wrapped(n *big.Int) int64 {
	low := new(big.Int).And(n, new(big.Int).SetUint64(math.MaxUint64))
	return int64(low.Uint64())
}

// ofNumbers is what comes of two numbers, as an instruction, reckoned by great ones; it is false where that is a trap.
func ofNumbers(word string, a, b int64) (string, bool) {
	x, y, z := big.NewInt(a), big.NewInt(b), new(big.Int)
	switch word {
	case "add":
		z.Add(x, y)
	case "sub":
		z.Sub(x, y)
	case "mul":
		z.Mul(x, y)
	case "div", "mod":
		if b == 0 {
			return "", false
		}
		rest := new(big.Int)
		z.QuoRem(x, y, rest)
		if word == "mod" {
			z = rest
		}
	default:
		c := x.Cmp(y)
		is := map[string]bool{"eq": c == 0, "ne": c != 0, "lt": c < 0, "le": c <= 0, "gt": c > 0, "ge": c >= 0}[word]
		return map[bool]string{true: "truth 1", false: "truth 0"}[is], true
	}
	return fmt.Sprint("push ", wrapped(z)), true
}

// ofTruths is what comes of two truths, as a table for 00, 01, 10, 11.
var ofTruths = map[string]string{"eq": "1001", "ne": "0110", "and": "0001", "or": "0111"}

// TestN1TwoNumbers: what comes of them stands in their place, but where 0 divides.
func TestN1TwoNumbers(t *testing.T) {
	for op := api.OpAdd; op <= api.OpGe; op++ {
		for _, a := range edges {
			for _, b := range edges {
				text := fmt.Sprintf("push %d, push %d, %s", a, b, words[op-1])
				put, ok := ofNumbers(words[op-1], a, b)
				if !ok {
					put = text
				}
				wantCode(t, text+", out, end", put+", out, end")
			}
		}
	}
}

// TestN1TwoTruths are reckoned by eq, ne, and, or.
func TestN1TwoTruths(t *testing.T) {
	for word, table := range ofTruths {
		for n, c := range table {
			wantCode(t, fmt.Sprintf("truth %d, truth %d, %s, out, end", n/2, n%2, word), fmt.Sprintf("truth %c, out, end", c))
		}
	}
}

// TestN1OthersAreNotReckoned: what is never reached may stand beside constants of another kind.
func TestN1OthersAreNotReckoned(t *testing.T) {
	for op, word := range words {
		isNumber := op+1 >= api.OpAdd && op+1 <= api.OpGe
		_, isTruth := ofTruths[word]
		if word == "drop" || word == "neg" || word == "not" || word == "else" || word == "jump" || word == "push" || word == "truth" || word == "load" {
			continue
		}
		for _, kinds := range []string{"push 6, push 2", "truth 1, truth 1", "push 1, truth 1", "truth 1, push 1", "load 0, load 0", "push 1, load 0", "load 0, push 1"} {
			if kinds == "push 6, push 2" && isNumber || kinds == "truth 1, truth 1" && isTruth {
				continue
			}
			c := code(row("end", kinds, word, "end"))
			if word == "call" || word == "start" {
				c[3].A = map[string]int{"call": 1, "start": 2}[word]
			}
			wantInstrs(t, c, c)
		}
	}
	wantStays(t, "end, load 0, push 1, add, out, end")
	wantStays(t, "recv 0, push 1, add, out, end")
	wantStays(t, "push 1, recv 0, add, out, end")
	wantStays(t, "push 1, push 2, out, out, end")
	wantStays(t, "end, add, add, end")
	wantStays(t, "end, push 1, add, end")
}

// TestN1Dropped: a constant or a local that is dropped is nothing; whatever else is dropped stays.
func TestN1Dropped(t *testing.T) {
	for _, c := range []string{"push 5", "push 0", "truth 0", "truth 1"} {
		wantCode(t, c+", drop, end", "end")
	}
	wantCode(t, "push 5, store 0, load 0, drop, end", "push 5, store 0, end")
	wantCode(t, "truth 1, store 1, load 1, drop, end", "truth 1, store 1, end")
	wantStays(t, "recv 0, drop, end")
	wantStays(t, "push 1, call 1, drop, end")
	wantStays(t, "truth 1, start 2, drop, end")
	wantStays(t, "recv 0, neg, drop, end")
	wantStays(t, "end, drop, drop, end")
	wantStays(t, "push 1, store 0, end")
}

// TestN1Opposites: of a number, and of a truth.
func TestN1Opposites(t *testing.T) {
	for _, a := range edges {
		wantCode(t, fmt.Sprintf("push %d, neg, out, end", a), fmt.Sprintf("push %d, out, end", wrapped(new(big.Int).Neg(big.NewInt(a)))))
	}
	wantCode(t, "truth 0, not, out, end", "truth 1, out, end")
	wantCode(t, "truth 1, not, out, end", "truth 0, out, end")
	wantStays(t, "end, truth 1, neg, end")
	wantStays(t, "end, push 1, not, end")
	wantStays(t, "end, load 0, neg, load 1, not, end")
	wantStays(t, "recv 0, neg, out, recv 1, not, out, end")
	wantStays(t, "recv 0, neg, neg, out, end")
}

// TestN1KnownElse: it always jumps, or never.
func TestN1KnownElse(t *testing.T) {
	wantCode(t, "truth 0, else 4, push 1, out, end", "jump 3, push 1, out, end")
	wantCode(t, "truth 1, else 4, push 1, out, end", "push 1, out, end")
	wantCode(t, "push 1, out, truth 0, else 0, end", "push 1, out, jump 0, end")
	wantCode(t, "push 1, out, truth 1, else 0, end", "push 1, out, end")
	wantCode(t, "truth 0, else 0, end", "jump 0, end")
	wantCode(t, "truth 1, else 0, end", "end")
	wantStays(t, "recv 1, else 4, push 1, out, end")
	wantStays(t, "end, push 0, else 0, push 1, else 0, load 1, else 0, end")
}

// TestN1JumpsToTheNext are nothing, others stay.
func TestN1JumpsToTheNext(t *testing.T) {
	wantCode(t, "jump 1, end", "end")
	wantCode(t, "jump 1, jump 2, jump 3, end", "end")
	wantCode(t, "push 1, jump 2, out, end", "push 1, out, end")
	wantStays(t, "jump 0, end")
	wantStays(t, "jump 2, end, end")
	wantStays(t, "push 1, out, jump 0, end")
	wantStays(t, "push 1, jump 3, end, out, end")
	wantStays(t, "end, jump 1, end")
	wantStays(t, "recv 1, else 2, end")
	wantCode(t, "jump 1, jump 0", "jump 0")
}

// TestN1SomethingFollows: a rule that names the last instruction does not hold.
func TestN1SomethingFollows(t *testing.T) {
	for _, c := range []struct{ text, put string }{
		{"push 1, push 2, add", "push 3"}, {"push 1, push 2, lt", "truth 1"}, {"truth 1, truth 0, or", "truth 1"},
		{"push 1, drop", ""}, {"truth 1, drop", ""}, {"load 0, drop", ""}, {"push 1, neg", "push -1"}, {"truth 1, not", "truth 0"},
		{"truth 0, else 0", "jump 0"}, {"truth 1, else 0", ""},
	} {
		wantStays(t, "end, "+c.text)
		for _, last := range []string{"end", "ret", "drop", "add", "jump 0", "push 1"} {
			wantCode(t, row("end", c.text, last), row("end", c.put, last))
		}
	}
	wantStays(t, "jump 0")
	wantCode(t, "end, jump 2, drop", "end, drop")
	wantStays(t, "end, push 1")
	wantStays(t, "end, push 1, push 2")
	wantStays(t, "end, truth 1")
	wantStays(t, "end")
}

// TestN1Passes go on until one does nothing.
func TestN1Passes(t *testing.T) {
	wantCode(t, "push 1, push 2, add, push 3, mul, neg, out, end", "push -9, out, end")
	wantCode(t, "push 1, push 2, push 3, add, add, out, end", "push 6, out, end")
	wantCode(t, "push 1, push 2, lt, not, not, out, end", "truth 1, out, end")
	wantCode(t, "push 1, push 2, drop, drop, end", "end")
	wantCode(t, "push 1, push 2, eq, else 7, push 1, out, end, end", "jump 4, push 1, out, end, end")
	wantCode(t, "push 1, push 2, ne, else 7, push 1, out, end, end", "push 1, out, end, end")
	wantCode(t, "truth 0, else 2, end", "end")
	wantCode(t, "push 1, push 0, div, push 2, push 3, add, add, out, end", "push 1, push 0, div, push 5, add, out, end")
	wantCode(t, "push 1, push 2, push 2, sub, div, out, end", "push 1, push 0, div, out, end")
	wantCode(t, "recv 0, push 1, push 1, add, add, out, end", "recv 0, push 2, add, out, end")
	wantCode(t, "jump 3, push 1, drop, end", "end")
	const deep = 250
	wantCode(t, row(repeated("push 1", deep), repeated("add", deep-1), "out, end"), fmt.Sprintf("push %d, out, end", deep))
	wantCode(t, row("truth 0", repeated("not", deep+1), "out, end"), "truth 1, out, end")
	wantCode(t, row(repeated("push 1", deep), repeated("drop", deep), "end"), "end")
}

// TestN1Fields: those that a kind has not mean nothing, are 0 in what is put, and stay in what stays.
func TestN1Fields(t *testing.T) {
	odd := func(op, a int, n int64) api.Instr { return api.Instr{Op: op, A: a, N: n} }
	for _, c := range []struct{ l, want []api.Instr }{
		{[]api.Instr{odd(api.OpPush, 8, 1), odd(api.OpPush, 9, 2), odd(api.OpAdd, 10, 11), odd(api.OpOut, 12, 13), odd(api.OpEnd, 14, 15)},
			[]api.Instr{odd(api.OpPush, 0, 3), odd(api.OpOut, 12, 13), odd(api.OpEnd, 14, 15)}},
		{[]api.Instr{odd(api.OpPush, -8, 1), odd(api.OpPush, -9, 2), odd(api.OpLe, -10, -11), odd(api.OpOut, -12, 13), odd(api.OpEnd, 14, 15)},
			[]api.Instr{odd(api.OpTruth, 1, 0), odd(api.OpOut, -12, 13), odd(api.OpEnd, 14, 15)}},
		{[]api.Instr{odd(api.OpTruth, 1, 7), odd(api.OpTruth, 1, 8), odd(api.OpEq, 9, 9), odd(api.OpOut, 0, 0), odd(api.OpEnd, 0, 0)},
			[]api.Instr{odd(api.OpTruth, 1, 0), odd(api.OpOut, 0, 0), odd(api.OpEnd, 0, 0)}},
		{[]api.Instr{odd(api.OpPush, 7, 7), odd(api.OpNeg, 8, 8), odd(api.OpOut, 0, 0), odd(api.OpEnd, 0, 0)},
			[]api.Instr{odd(api.OpPush, 0, -7), odd(api.OpOut, 0, 0), odd(api.OpEnd, 0, 0)}},
		{[]api.Instr{odd(api.OpTruth, 0, 7), odd(api.OpNot, 8, 8), odd(api.OpOut, 0, 0), odd(api.OpEnd, 0, 0)},
			[]api.Instr{odd(api.OpTruth, 1, 0), odd(api.OpOut, 0, 0), odd(api.OpEnd, 0, 0)}},
		{[]api.Instr{odd(api.OpTruth, 0, 7), odd(api.OpElse, 0, 8), odd(api.OpEnd, 3, 4)},
			[]api.Instr{odd(api.OpJump, 0, 0), odd(api.OpEnd, 3, 4)}},
		{[]api.Instr{odd(api.OpTruth, 1, 7), odd(api.OpDrop, 8, 8), odd(api.OpJump, 3, 9), odd(api.OpEnd, 3, 4)},
			[]api.Instr{odd(api.OpEnd, 3, 4)}},
		{[]api.Instr{odd(api.OpRecv, 1, 7), odd(api.OpElse, 0, 8), odd(api.OpPush, 9, 9), odd(api.OpOut, 5, 5), odd(api.OpJump, 2, 6)},
			[]api.Instr{odd(api.OpRecv, 1, 7), odd(api.OpElse, 0, 8), odd(api.OpPush, 9, 9), odd(api.OpOut, 5, 5), odd(api.OpJump, 2, 6)}},
		{[]api.Instr{odd(api.OpPush, 0, 1), odd(api.OpDrop, 0, 0), odd(api.OpRecv, 1, 7), odd(api.OpElse, 2, 8), odd(api.OpJump, 2, 6)},
			[]api.Instr{odd(api.OpRecv, 1, 7), odd(api.OpElse, 0, 8), odd(api.OpJump, 0, 6)}},
	} {
		wantInstrs(t, c.l, c.want)
	}
}
