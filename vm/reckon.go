package vm

import "yieldshape/api"

// Reckon answers what comes of two words, from OpAdd to OpOr; or, if that is none (0 divides), the trap.
// The least number divided by -1 is itself, rest 0: so it is in the language too.
func Reckon(op int, first, second int64) (v int64, trap int) {
	if second == 0 && (op == api.OpDiv || op == api.OpMod) {
		return 0, api.TrapZero
	}
	switch op {
	case api.OpAdd:
		return first + second, 0
	case api.OpSub:
		return first - second, 0
	case api.OpMul:
		return first * second, 0
	case api.OpDiv:
		return first / second, 0
	case api.OpMod:
		return first % second, 0
	}
	return truthWord(holds(op, first, second)), 0
}

// holds answers the truth that comes of two words, from OpEq to OpOr; truths are words, too.
func holds(op int, first, second int64) bool {
	switch op {
	case api.OpEq:
		return first == second
	case api.OpNe:
		return first != second
	case api.OpLt:
		return first < second
	case api.OpLe:
		return first <= second
	case api.OpGt:
		return first > second
	case api.OpGe:
		return first >= second
	case api.OpAnd:
		return first != 0 && second != 0
	}
	return first != 0 || second != 0 // OpOr is left
}

func truthWord(is bool) int64 {
	if is {
		return 1
	}
	return 0
}
