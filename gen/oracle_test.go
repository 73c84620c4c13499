package gen_test

import (
	"slices"

	"yieldshape/api"
)

// oracle is a second reckoning of the module of a program that the maker made: where a piece of code begins is known ahead of it, so that no jump is mended; names are looked for among those that stand.
type oracle struct {
	*maker
	letting int // how many were let so far, in this definition
}

// standing is a name, and the local that it stands for.
type standing struct {
	name  string
	local int
}

func (o *oracle) module() api.Module {
	var m api.Module
	for i, d := range o.defs {
		switch d.Kind {
		case api.DBox:
			m.Boxes = append(m.Boxes, api.BoxInfo{Type: o.typeNumber(d.Type), Cap: d.Cap})
		case api.DFn:
			last := api.Instr{Op: api.OpPush}
			if d.Type == typeBool {
				last.Op = api.OpTruth
			}
			u := o.unit(i, last, api.Instr{Op: api.OpRet})
			u.Params, u.Result = len(d.Params), o.typeNumber(d.Type)
			m.Units = append(m.Units, u)
		case api.DGen:
			u := o.unit(i, api.Instr{Op: api.OpEnd})
			u.Params, u.Result, u.Takes = len(d.Params), o.typeNumber(d.Type), o.typeNumber(d.Takes)
			m.Units = append(m.Units, u)
		case api.DTask:
			m.Units = append(m.Units, o.unit(i, api.Instr{Op: api.OpEnd}))
		}
	}
	return m
}

func (o *oracle) unit(n int, end ...api.Instr) api.Unit {
	d := o.defs[n]
	u := api.Unit{Kind: d.Kind}
	for _, p := range slices.Concat(d.Params, o.lets[n]) {
		u.Locals = append(u.Locals, o.typeNumber(p.Type))
	}
	var names []standing
	for i, p := range d.Params {
		names = append(names, standing{p.Name, i})
	}
	o.letting = len(d.Params)
	u.Code = append(o.block(d.Body, 0, names), end...)
	return u
}

// number answers how many definitions of the same sort stand ahead of the one of that name.
func (o *oracle) number(name string) int {
	boxes, units := 0, 0
	for _, d := range o.defs {
		switch {
		case d.Name == name && d.Kind == api.DBox:
			return boxes
		case d.Name == name:
			return units
		case d.Kind == api.DBox:
			boxes++
		default:
			units++
		}
	}
	panic("no such definition: " + name)
}

func (o *oracle) typeNumber(t api.Type) int {
	if t == typeNum {
		return 1
	}
	if t == typeBool {
		return 2
	}
	return api.Handle + o.number(t.Gen)
}

func local(name string, names []standing) int {
	for _, n := range names {
		if n.name == name {
			return n.local
		}
	}
	panic("no such local: " + name)
}

// block answers the code of a block that begins at an instruction.
func (o *oracle) block(l []api.Stat, at int, names []standing) []api.Instr {
	var out []api.Instr
	for _, s := range l {
		if s.Kind == api.SLet {
			out = append(out, o.expr(s.X, names)...)
			names = append(slices.Clone(names), standing{s.Name, o.letting})
			out = append(out, api.Instr{Op: api.OpStore, A: o.letting})
			o.letting++
			continue
		}
		out = append(out, o.stat(s, at+len(out), names)...)
	}
	return out
}

func (o *oracle) stat(s api.Stat, at int, names []standing) []api.Instr {
	if s.Kind == api.SStop {
		return []api.Instr{{Op: api.OpEnd}}
	}
	x := o.expr(s.X, names)
	behind := at + len(x) + 1
	one := func(op, a int) []api.Instr { return []api.Instr{{Op: op, A: a}} }
	switch s.Kind {
	case api.SSet:
		return append(x, api.Instr{Op: api.OpStore, A: local(s.Name, names)})
	case api.SIf:
		body := o.block(s.Body, behind, names)
		other := behind + len(body) + 1
		last := o.block(s.Else, other, names)
		return slices.Concat(x, one(api.OpElse, other), body, one(api.OpJump, other+len(last)), last)
	case api.SWhile:
		body := o.block(s.Body, behind, names)
		return slices.Concat(x, one(api.OpElse, behind+len(body)+1), body, one(api.OpJump, at))
	case api.SReturn:
		return append(x, api.Instr{Op: api.OpRet})
	case api.SSend:
		return append(x, api.Instr{Op: api.OpSend, A: o.number(s.Name)})
	case api.SOut:
		return append(x, api.Instr{Op: api.OpOut})
	}
	return append(x, api.Instr{Op: api.OpDrop})
}

func (o *oracle) expr(x api.Expr, names []standing) []api.Instr {
	var out []api.Instr
	for _, kid := range x.Kids {
		out = append(out, o.expr(kid, names)...)
	}
	plain := map[int]int{
		api.ENeg: api.OpNeg, api.ENot: api.OpNot, api.EAdd: api.OpAdd, api.ESub: api.OpSub, api.EMul: api.OpMul,
		api.EDiv: api.OpDiv, api.EMod: api.OpMod, api.EEq: api.OpEq, api.ENe: api.OpNe, api.ELt: api.OpLt,
		api.ELe: api.OpLe, api.EGt: api.OpGt, api.EGe: api.OpGe, api.EAnd: api.OpAnd, api.EOr: api.OpOr,
		api.EYield: api.OpYield, api.EResume: api.OpResume, api.EAlive: api.OpAlive,
	}
	named := map[int]int{api.ECall: api.OpCall, api.EStart: api.OpStart, api.ERecv: api.OpRecv}
	c := api.Instr{Op: plain[x.Kind] + named[x.Kind]}
	switch x.Kind {
	case api.ENum:
		c = api.Instr{Op: api.OpPush, N: x.N}
	case api.EBool:
		c = api.Instr{Op: api.OpTruth, A: int(x.N)}
	case api.EVar:
		c = api.Instr{Op: api.OpLoad, A: local(x.Name, names)}
	case api.ECall, api.EStart, api.ERecv:
		c.A = o.number(x.Name)
	}
	return append(out, c)
}
