package sema

import "yieldshape/api"

var (
	number = api.Type{Kind: api.TyNum}
	truth  = api.Type{Kind: api.TyBool}
)

// same: a type that is no generator's has none, whatever stands in Gen.
func same(a, b api.Type) bool {
	return a.Kind == b.Kind && (a.Kind != api.TyGen || a.Gen == b.Gen)
}

// body goes through the body of a definition, and notes whom it speaks with.
type body struct {
	look
	scope
	talk
}

// bodies looks at all bodies (promise C3), and answers of each definition whom its body speaks with.
func (p program) bodies() []talk {
	talks := make([]talk, len(p.defs))
	for i, d := range p.defs {
		if d.Kind == api.DBox {
			continue
		}
		b := body{look: look{p, i}, scope: scope{types: map[string]api.Type{}}}
		b.whole()
		talks[i] = b.talk
	}
	return talks
}

func (b *body) whole() {
	d := b.def()
	if d.Kind != api.DTask {
		for _, p := range d.Params {
			b.let(p.Name, p.Type)
		}
	}
	b.block(d.Body)
}

func (b *body) block(l []api.Stat) {
	defer b.open()()
	for _, s := range l {
		b.stat(s)
	}
}

func (b *body) stat(s api.Stat) {
	switch s.Kind {
	case api.SLet:
		b.naming(s.Name, b.expr(s.X))
	case api.SSet:
		b.must(b.known(s.Name), s.X)
	case api.SIf:
		b.must(truth, s.X)
		b.block(s.Body)
		b.block(s.Else)
	case api.SWhile:
		b.must(truth, s.X)
		b.block(s.Body)
	case api.SReturn:
		b.fits(b.def().Kind == api.DFn)
		b.must(b.def().Type, s.X)
	case api.SStop:
		b.fits(b.def().Kind != api.DFn)
	case api.SSend:
		box := b.want(api.DBox, s.Name)
		b.sends = append(b.sends, box)
		b.must(b.defs[box].Type, s.X)
	case api.SOut:
		b.plain(b.expr(s.X))
	case api.SDo:
		b.expr(s.X)
	}
}

// fits fails if what is looked at doesn't belong into such a definition.
func (b *body) fits(ok bool) {
	if !ok {
		b.fail(api.ErrFit)
	}
}

// naming lets a name that stands for nothing yet.
func (b *body) naming(name string, t api.Type) {
	if _, taken := b.types[name]; taken {
		b.fail(api.ErrName)
	}
	b.let(name, t)
}

// known answers the type of what a name stands for.
func (b *body) known(name string) api.Type {
	t, ok := b.types[name]
	if !ok {
		b.fail(api.ErrName)
	}
	return t
}

// must: each one's own errors come ahead of that it is of another type.
func (b *body) must(want api.Type, l ...api.Expr) {
	for _, x := range l {
		if !same(b.expr(x), want) {
			b.fail(api.ErrType)
		}
	}
}
