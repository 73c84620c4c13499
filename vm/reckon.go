package vm

import "yieldshape/api"

// reckoned answers what comes of two words, from OpAdd to OpOr; second isn't 0, if it divides.
// The least number divided by -1 is itself, rest 0: so it is in the language too.
func reckoned(op int, first, second int64) int64 {
	switch op {
	case api.OpAdd:
		return first + second
	case api.OpSub:
		return first - second
	case api.OpMul:
		return first * second
	case api.OpDiv:
		return first / second
	case api.OpMod:
		return first % second
	}
	return truthWord(holds(op, first, second))
}

// holds answers the truth that comes of two words, from OpEq to OpOr; truths are words, too.
func holds(op int, first, second int64) bool {
	switch op {
	case api.OpEq:
		return first == second
	case api.OpNe:
		return first != second
	case api.OpLt:
		return first < second
	case api.OpLe:
		return first <= second
	case api.OpGt:
		return first > second
	case api.OpGe:
		return first >= second
	case api.OpAnd:
		return first != 0 && second != 0
	}
	return first != 0 || second != 0 // OpOr is left
}

func truthWord(is bool) int64 {
	if is {
		return 1
	}
	return 0
}
