package source

import (
	"yieldshape/api"
	"yieldshape/vm"
)

// expr comes to an expression, then to its kids (promise K2).
func (b *work) expr(x api.Expr, after then) move {
	return func() move {
		b.come()
		return b.exprs(x.Kids, nil, func(words []int64) move { return b.does(x, words, after) })
	}
}

// exprs comes to expressions from the first one on; words are those of the ones ahead of them.
func (b *work) exprs(l []api.Expr, words []int64, after func(words []int64) move) move {
	if len(l) == 0 {
		return after(words)
	}
	return b.expr(l[0], func(v int64) move { return b.exprs(l[1:], append(words, v), after) })
}

// does does what an expression does with the words of its kids.
func (b *work) does(x api.Expr, words []int64, after then) move {
	switch x.Kind {
	case api.ENum, api.EBool:
		return after(x.N)
	case api.EVar:
		return after(b.names[x.Name])
	case api.ENeg:
		return after(-words[0])
	case api.ENot:
		return after(1 - words[0])
	case api.ECall:
		return b.call(b.units[x.Name], words, after)
	case api.ERecv:
		return b.recv(b.numbers[x.Name], after)
	case api.EYield:
		return b.yield(words[0], after)
	case api.EStart:
		return b.start(b.units[x.Name], words, after)
	case api.EResume:
		return b.resume(b.threads[words[0]], words[1], after)
	case api.EAlive:
		return after(b.threads[words[0]].alive())
	}
	return b.reckon(x.Kind, words[0], words[1], after)
}

// reckon: kinds and instructions, from EAdd to EOr, stand in the same order.
func (b *work) reckon(kind int, first, second int64, after then) move {
	v, trap := vm.Reckon(kind-api.EAdd+api.OpAdd, first, second)
	if trap != 0 {
		return b.fall(trap)
	}
	return after(v)
}
