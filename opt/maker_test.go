package opt_test

import (
	"math/rand"
	"slices"

	"yieldshape/api"
)

// maker makes code in which there is something to do.
type maker struct{ *rand.Rand }

func (k maker) one(l ...string) string { return l[k.Intn(len(l))] }

func (k maker) constant(t int) string {
	if t == truth {
		return k.one("truth 0", "truth 1")
	}
	return k.one("push 0", "push 1", "push -1", "push 2", "push 7", "push 9223372036854775807", "push -9223372036854775808")
}

// nonsense is instructions of all sorts, each well formed by itself; jumps go anywhere among so many.
func (k maker) nonsense(size, jumps int) []api.Instr {
	var out []api.Instr
	for len(out) < size {
		text := k.one("load 0", "load 1", "drop", "drop", "neg", "not", "end", "out", k.constant(number), k.constant(truth))
		switch k.Intn(jumps) {
		case 0:
			text = k.one("jump 0", "else 0")
		case 1, 2:
			text = words[api.OpAdd-1+k.Intn(api.OpOr-api.OpAdd+1)]
		case 3, 4:
			text = k.constant(number)
		}
		out = append(out, code(text)...)
	}
	for n := range out {
		switch {
		case !isJump(words[out[n].Op-1]):
		case k.Intn(3) == 0:
			out[n].A = min(n+1+k.Intn(3), size-1)
		default:
			out[n].A = k.Intn(size)
		}
	}
	return out
}

// sense is code that runs: it is made by doing what it does with a stack of types; jumps go to where the stack is the same.
func (k maker) sense(size int) []api.Instr {
	var stack []int
	var out []api.Instr
	var stacks [][]int // ahead of each instruction
	lay := func(text string, takes int, puts ...int) {
		stacks = append(stacks, slices.Clone(stack))
		out = append(out, code(text)...)
		stack = append(stack[:len(stack)-takes], puts...)
	}
	lay("push 3", 0, number)
	lay("store 0", 1)
	lay("truth 1", 0, truth)
	lay("store 1", 1)
	for len(out) < size {
		k.step(stack, lay)
	}
	for len(stack) > 0 {
		lay("drop", 1)
	}
	lay("end", 0)
	k.aim(out, stacks)
	return out
}

func (k maker) step(stack []int, lay func(text string, takes int, puts ...int)) {
	n := len(stack)
	t := 1 + k.Intn(2)
	switch {
	case n < 2 && k.Intn(3) > 0 || n < 5 && k.Intn(4) == 0:
		lay(k.one(k.constant(t), k.constant(t), k.constant(t), []string{"", "load 0", "load 1"}[t], []string{"", "recv 0", "recv 1"}[t]), 0, t)
	case k.Intn(8) == 0:
		lay("jump 0", 0)
	case n > 0 && k.Intn(4) == 0:
		lay(k.one("drop", "out", []string{"", "store 0", "store 1"}[stack[n-1]]), 1)
	case n > 0 && stack[n-1] == truth && k.Intn(2) == 0:
		lay("else 0", 1)
	case n > 1 && stack[n-1] == stack[n-2] && k.Intn(4) > 0:
		if stack[n-1] == truth {
			lay(k.one("eq", "ne", "and", "or"), 2, truth)
		} else if k.Intn(2) == 0 {
			lay(k.one("add", "sub", "mul", "div", "mod"), 2, number)
		} else {
			lay(k.one("eq", "ne", "lt", "le", "gt", "ge"), 2, truth)
		}
	case n > 0:
		lay([]string{"", "neg", "not"}[stack[n-1]], 1, stack[n-1])
	}
}

func (k maker) aim(l []api.Instr, stacks [][]int) {
	for n, c := range l {
		if !isJump(words[c.Op-1]) {
			continue
		}
		now := stacks[n]
		if c.Op == api.OpElse {
			now = now[:len(now)-1]
		}
		l[n].A = n + 1
		var fit []int
		for at := range stacks {
			if at >= 4 && slices.Equal(stacks[at], now) && (at > n || k.Intn(4) == 0) {
				fit = append(fit, at)
			}
		}
		if len(fit) > 0 {
			l[n].A = fit[k.Intn(len(fit))]
		}
	}
}
