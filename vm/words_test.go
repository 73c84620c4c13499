package vm_test

import (
	"fmt"
	"math"
	"math/big"
	"testing"

	"yieldshape/api"
)

const (
	least    = math.MinInt64
	greatest = math.MaxInt64
)

// edges are words at which numbers wrap round, change their sign, or are nought.
var edges = []int64{least, least + 1, -1 << 32, -10, -7, -3, -2, -1, 0, 1, 2, 3, 7, 10, 1 << 31, 1<<32 + 1, 3037000500, greatest - 1, greatest}

// wrapped is a number's word of 64 bits, whatever the number is.
func wrapped(n *big.Int) int64 {
	all := new(big.Int).Lsh(big.NewInt(1), 64)
	n = new(big.Int).Mod(n, all)
	if n.Bit(63) == 1 {
		n.Sub(n, all)
	}
	return n.Int64()
}

// ofTwo answers what comes of two numbers, reckoned without bounds.
func ofTwo(word string, a, b int64) int64 {
	x, y, z := big.NewInt(a), big.NewInt(b), new(big.Int)
	order := x.Cmp(y)
	is := map[string]bool{"eq": order == 0, "ne": order != 0, "lt": order < 0, "le": order <= 0, "gt": order > 0, "ge": order >= 0}
	switch word {
	case "add":
		return wrapped(z.Add(x, y))
	case "sub":
		return wrapped(z.Sub(x, y))
	case "mul":
		return wrapped(z.Mul(x, y))
	case "div":
		return wrapped(z.Quo(x, y))
	case "mod":
		return wrapped(z.Rem(x, y))
	}
	if is[word] {
		return 1
	}
	return 0
}

// TestI2TwoNumbers: the first one lies below the second one; words below both stay.
func TestI2TwoNumbers(t *testing.T) {
	for _, word := range words[api.OpAdd-1 : api.OpGe] {
		for _, a := range edges {
			for _, b := range edges {
				text := fmt.Sprintf("push 77, push %d, push %d, %s, out, out, end", a, b, word)
				if b == 0 && (word == "div" || word == "mod") {
					wantTrap(t, text, module(task(text)), api.TrapZero, 4)
					continue
				}
				wantDone(t, text, module(task(text)), ofTwo(word, a, b), 77)
			}
		}
	}
}

// TestI2Division: told by numbers, not by a second reckoning.
func TestI2Division(t *testing.T) {
	for _, c := range []struct{ a, b, div, mod int64 }{
		{7, 2, 3, 1}, {-7, 2, -3, -1}, {7, -2, -3, 1}, {-7, -2, 3, -1},
		{6, 3, 2, 0}, {-6, 3, -2, 0}, {1, 5, 0, 1}, {-1, 5, 0, -1}, {0, 5, 0, 0}, {0, -5, 0, 0},
		{least, -1, least, 0}, {least, 1, least, 0}, {greatest, -1, -greatest, 0}, {least, least, 1, 0}, {greatest, least, 0, greatest}, {least, greatest, -1, -1},
	} {
		text := fmt.Sprintf("push %d, push %d, div, out, push %d, push %d, mod, out, end", c.a, c.b, c.a, c.b)
		wantDone(t, text, module(task(text)), c.div, c.mod)
	}
}

// TestI2DividedByNought: whatever the first one is; what was put out stays, and nothing follows.
func TestI2DividedByNought(t *testing.T) {
	for _, word := range []string{"div", "mod"} {
		for _, a := range edges {
			text := fmt.Sprintf("push 5, out, push %d, push 0, %s, out, push 6, out, end", a, word)
			wantTrap(t, text, module(task(text)), api.TrapZero, 5, 5)
		}
	}
}

func TestI2TwoTruths(t *testing.T) {
	for n, want := range map[string][4]int64{"eq": {1, 0, 0, 1}, "ne": {0, 1, 1, 0}, "and": {0, 0, 0, 1}, "or": {0, 1, 1, 1}} {
		for i, v := range want {
			text := fmt.Sprintf("truth 1, truth %d, truth %d, %s, out, out, end", i/2, i%2, n)
			wantDone(t, text, module(task(text)), v, 1)
		}
	}
}

func TestI2OneWord(t *testing.T) {
	for _, a := range edges {
		text := fmt.Sprintf("push %d, push %d, neg, out, out, end", a, a)
		wantDone(t, text, module(task(text)), wrapped(new(big.Int).Neg(big.NewInt(a))), a)
		text = fmt.Sprintf("push 1, push %d, drop, out, end", a)
		wantDone(t, text, module(task(text)), 1)
	}
	wantDone(t, "not", module(task("truth 0, truth 0, not, truth 1, not, out, out, out, end")), 0, 1, 0)
}

// TestI2FieldsThatAreNotNamed mean nothing.
func TestI2FieldsThatAreNotNamed(t *testing.T) {
	u := task("push 3, push 4, add, out, truth 1, not, out, push 5, store 0, load 0, drop, jump 12, end", number)
	for i := range u.Code {
		switch u.Code[i].Op {
		case api.OpPush:
			u.Code[i].A = 1000 + i
		case api.OpTruth, api.OpStore, api.OpLoad, api.OpJump:
			u.Code[i].N = int64(1000 + i)
		default:
			u.Code[i].A, u.Code[i].N = -5-i, int64(1000+i)
		}
	}
	u.Result, u.Takes = -1, 99
	wantDone(t, "odd fields", module(u), 7, 0)
}

func TestI2Locals(t *testing.T) {
	const all = api.MaxLocals
	var store, load string
	var want []int64
	for n := range all {
		store = row(store, fmt.Sprintf("push %d, store %d", 3*n-100, n))
		load = row(load, fmt.Sprintf("load %d, out", n))
		want = append(want, int64(3*n-100))
	}
	wantDone(t, "all locals", module(task(row(store, load, "end"), numbers(all)...)), want...)
	wantDone(t, "the other one stays", module(task("push 1, store 0, push 2, store 1, push 3, store 0, load 1, load 0, out, out, end", numbers(2)...)), 3, 2)
	wantDone(t, "a load takes nothing", module(task("push 1, store 0, load 0, load 0, add, load 0, add, out, end", number)), 3)
	wantDone(t, "with words above", module(task("push 7, push 1, store 1, push 8, load 1, out, push 2, store 0, load 1, load 0, sub, out, out, out, end", numbers(2)...)), 1, -1, 8, 7)
}

func TestI2Jumps(t *testing.T) {
	for v, want := range []int64{10, 20} {
		text := fmt.Sprintf("truth %d, else 5, push 20, out, end, push 10, out, end", v)
		wantDone(t, text, module(task(text)), want)
	}
	wantDone(t, "there and back", module(task("jump 3, push 2, jump 5, push 1, jump 1, out, out, end")), 2, 1)
	wantDone(t, "a loop", module(task("push 3, store 0, load 0, push 0, gt, else 13, load 0, out, load 0, push 1, sub, store 0, jump 2, end", number)), 3, 2, 1)
	r := solo(t, "a loop", module(task("push 3, store 0, load 0, push 0, gt, else 13, load 0, out, load 0, push 1, sub, store 0, jump 2, end", number)))
	if r.Steps != 2+3*11+4+1 {
		t.Errorf("a loop: %d steps", r.Steps)
	}
	wantReport(t, "for ever", module(task("jump 0")), 0, [][]int64{nil}, api.MaxSolo, api.Report{State: api.Ready, Sent: [][]int64{nil}, Took: []int{0}, Steps: api.MaxSolo})
}

// TestI2Out: numbers and truths, behind the others.
func TestI2Out(t *testing.T) {
	wantDone(t, "out", module(task("push 3, out, truth 1, out, truth 0, out, push -9223372036854775808, out, push 3, out, end")), 3, 1, 0, least, 3)
}
