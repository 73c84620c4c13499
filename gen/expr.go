package gen

import "yieldshape/api"

// expr lays the code of an expression, and answers of which type the word is that it leaves on top (promise H3).
func (b *body) expr(x api.Expr) int {
	kids := b.exprs(x.Kids)
	switch x.Kind {
	case api.ENum:
		b.Code = append(b.Code, api.Instr{Op: api.OpPush, N: x.N})
		return number
	case api.EBool:
		b.lay(api.OpTruth, int(x.N))
		return truth
	case api.EVar:
		n := b.locals[x.Name]
		b.lay(api.OpLoad, n)
		return b.Locals[n]
	case api.ECall, api.EStart, api.ERecv:
		return b.named(x.Kind, b.numbers[x.Name])
	case api.EYield:
		b.lay(api.OpYield, 0)
		return b.Takes
	case api.EResume:
		b.lay(api.OpResume, 0)
		return b.Units[kids[0]-api.Handle].Result
	case api.EAlive:
		b.lay(api.OpAlive, 0)
		return truth
	}
	return b.reckon(x.Kind)
}

// exprs answers the types of expressions that are laid one behind the other.
func (b *body) exprs(l []api.Expr) []int {
	var types []int
	for _, x := range l {
		types = append(types, b.expr(x))
	}
	return types
}

// named lays what a unit or a box is spoken with, by its number.
func (b *body) named(kind, n int) int {
	switch kind {
	case api.ECall:
		b.lay(api.OpCall, n)
		return b.Units[n].Result
	case api.EStart:
		b.lay(api.OpStart, n)
		return api.Handle + n
	}
	b.lay(api.OpRecv, n) // ERecv is left
	return b.Boxes[n].Type
}

// reckon lays what is reckoned with numbers and truths: kinds and instructions, from ENeg to EOr, stand in the same order.
func (b *body) reckon(kind int) int {
	b.lay(kind-api.ENeg+api.OpNeg, 0)
	switch kind {
	case api.ENeg, api.EAdd, api.ESub, api.EMul, api.EDiv, api.EMod:
		return number
	}
	return truth
}
