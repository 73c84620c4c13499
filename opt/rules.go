package opt

import (
	"slices"

	"yieldshape/api"
	"yieldshape/vm"
)

// change is what a rule does: so many instructions are gone, and others stand in their place, or none.
type change struct {
	gone int
	put  []api.Instr
}

// rule answers what is done with the first ones of l, which stand at an instruction; gone is 0, if it names none of them.
type rule func(at int, l []api.Instr) change

// rules answers all of them, in the order in which they are tried.
func rules() []rule {
	return []rule{
		reckon,
		pair(api.OpDrop, func(_, _ api.Instr) []api.Instr { return nil }, api.OpPush, api.OpTruth, api.OpLoad),
		pair(api.OpNeg, func(c, _ api.Instr) []api.Instr { return number(-c.N) }, api.OpPush),
		pair(api.OpNot, func(c, _ api.Instr) []api.Instr { return truth(1 - c.A) }, api.OpTruth),
		pair(api.OpElse, branch, api.OpTruth),
		goOn,
	}
}

func number(n int64) []api.Instr { return []api.Instr{{Op: api.OpPush, N: n}} }

func truth(a int) []api.Instr { return []api.Instr{{Op: api.OpTruth, A: a}} }

// reckon: what comes of two constants is known ahead; a trap stays what it is.
func reckon(_ int, l []api.Instr) change {
	if len(l) < 3 || l[0].Op != l[1].Op || !reckons(l[0].Op, l[2].Op) {
		return change{}
	}
	op := l[2].Op
	v, trap := vm.Reckon(op, word(l[0]), word(l[1]))
	switch {
	case trap != 0:
		return change{}
	case op <= api.OpMod:
		return change{3, number(v)}
	}
	return change{3, truth(int(v))}
}

// reckons tells whether op is done with two constants of a kind: what is never reached may stand behind others, too.
func reckons(kind, op int) bool {
	switch kind {
	case api.OpPush:
		return api.OpAdd <= op && op <= api.OpGe
	case api.OpTruth:
		return op == api.OpEq || op == api.OpNe || op == api.OpAnd || op == api.OpOr
	}
	return false
}

// word answers the word that a constant puts on top.
func word(c api.Instr) int64 {
	if c.Op == api.OpPush {
		return c.N
	}
	return int64(c.A)
}

// pair answers the rule for two instructions, the second of that kind, the first of one of those; put tells what stands in their place.
func pair(second int, put func(a, b api.Instr) []api.Instr, first ...int) rule {
	return func(_ int, l []api.Instr) change {
		if len(l) < 2 || l[1].Op != second || !slices.Contains(first, l[0].Op) {
			return change{}
		}
		return change{2, put(l[0], l[1])}
	}
}

// branch: what is known ahead goes one way alone.
func branch(known, c api.Instr) []api.Instr {
	if known.A == 0 {
		return []api.Instr{{Op: api.OpJump, A: c.A}}
	}
	return nil
}

// goOn: a jump to the next instruction comes there anyway.
func goOn(at int, l []api.Instr) change {
	if l[0].Op != api.OpJump || l[0].A != at+1 {
		return change{}
	}
	return change{gone: 1}
}
