package sema

import "yieldshape/api"

// expr answers the type of an expression (promise C4).
func (b *body) expr(x api.Expr) api.Type {
	switch x.Kind {
	case api.ENum:
		return number
	case api.EBool:
		return truth
	case api.EVar:
		return b.known(x.Name)
	case api.ENeg, api.EAdd, api.ESub, api.EMul, api.EDiv, api.EMod:
		b.must(number, x.Kids...)
		return number
	case api.ELt, api.ELe, api.EGt, api.EGe:
		b.must(number, x.Kids...)
		return truth
	case api.ENot, api.EAnd, api.EOr:
		b.must(truth, x.Kids...)
		return truth
	case api.EEq, api.ENe:
		b.alike(b.expr(x.Kids[0]), b.expr(x.Kids[1]))
		return truth
	case api.EAlive:
		b.started(x.Kids[0])
		return truth
	}
	return b.spoken(x)
}

// spoken answers the type of what comes from elsewhere: from a function, a generator or a box.
func (b *body) spoken(x api.Expr) api.Type {
	switch x.Kind {
	case api.ECall:
		return b.call(api.DFn, x).Type
	case api.EStart:
		b.call(api.DGen, x)
		return api.Type{Kind: api.TyGen, Gen: x.Name}
	case api.ERecv:
		box := b.want(api.DBox, x.Name)
		b.receives = append(b.receives, box)
		return b.defs[box].Type
	case api.EYield:
		b.fits(b.def().Kind == api.DGen)
		b.must(b.def().Type, x.Kids[0])
		return b.def().Takes
	}
	g := b.started(x.Kids[0]) // EResume is left
	b.must(g.Takes, x.Kids[1])
	return g.Type
}

// alike: numbers and truths are held against their like, and nothing else is.
func (b *body) alike(first, second api.Type) {
	b.plain(first)
	if !same(first, second) {
		b.fail(api.ErrType)
	}
}

// call answers the definition of that kind that x calls or starts.
func (b *body) call(kind int, x api.Expr) api.Def {
	n := b.want(kind, x.Name)
	b.calls = append(b.calls, n)
	d := b.defs[n]
	if len(x.Kids) != len(d.Params) {
		b.fail(api.ErrMany)
	}
	for i, p := range d.Params {
		b.must(p.Type, x.Kids[i])
	}
	return d
}

// started answers the generator that x has started: x must be such a one.
func (b *body) started(x api.Expr) api.Def {
	t := b.expr(x)
	if t.Kind != api.TyGen {
		b.fail(api.ErrType)
	}
	return b.defs[b.want(api.DGen, t.Gen)]
}
