package sema

import (
	"yieldshape/api"
	"yieldshape/throw"
)

// program is definitions that are told apart by their names, with a task among them.
type program struct {
	defs    []api.Def
	numbers map[string]int // of definitions, by their names
}

func newProgram(l []api.Def) program {
	p := program{l, map[string]int{}}
	tasks := 0
	for i, d := range l {
		if _, taken := p.numbers[d.Name]; taken {
			throw.Fault(api.ErrName, i)
		}
		p.numbers[d.Name] = i
		if d.Kind == api.DTask {
			tasks++
		}
	}
	if tasks == 0 {
		throw.Fault(api.ErrNone, len(l))
	}
	return p
}

// look is at one definition of a program: what is wrong is told at its number.
type look struct {
	program
	number int
}

func (k look) def() api.Def { return k.defs[k.number] }

func (k look) fail(err api.Errno) { throw.Fault(err, k.number) }

// want answers the number of the definition of that kind and name: there must be one.
func (k look) want(kind int, name string) int {
	i, ok := k.numbers[name]
	if !ok || k.defs[i].Kind != kind {
		k.fail(api.ErrName)
	}
	return i
}

// heads looks at all heads (promise C2).
func (p program) heads() {
	for i := range p.defs {
		look{p, i}.head()
	}
}

func (k look) head() {
	d := k.def()
	switch d.Kind {
	case api.DBox:
		k.plain(d.Type)
	case api.DFn:
		k.params(d.Params)
		k.plain(d.Type)
	case api.DGen:
		k.params(d.Params)
		k.plain(d.Takes)
		k.plain(d.Type)
	}
}

func (k look) params(l []api.Param) {
	count := map[string]int{}
	for _, p := range l {
		count[p.Name]++
		if count[p.Name] > 1 {
			k.fail(api.ErrName)
		}
		if p.Type.Kind == api.TyGen {
			k.want(api.DGen, p.Type.Gen)
		}
	}
}

// plain: what a generator has started goes neither into boxes nor out of functions and generators.
func (k look) plain(t api.Type) {
	if t.Kind == api.TyGen {
		k.fail(api.ErrType)
	}
}
