package source_test

import (
	"fmt"
	"slices"

	"yieldshape/api"
)

// fnBody: at 0 it returns at once, mostly.
func (m *maker) fnBody() []api.Stat {
	var l []api.Stat
	if m.Intn(12) > 0 {
		back := api.Stat{Kind: api.SReturn, X: m.expr(m.at.Type, 0)}
		l = append(l, api.Stat{Kind: api.SIf, X: node(api.ELt, name("n"), num(1)), Body: []api.Stat{back}})
	}
	l = append(l, m.open(2, 3)...)
	if m.Intn(4) > 0 {
		l = append(l, api.Stat{Kind: api.SReturn, X: m.expr(m.at.Type, 2)})
	}
	return l
}

// genBody: most yield again and again.
func (m *maker) genBody() []api.Stat {
	if m.Intn(2) == 0 {
		return m.block(2, 4)
	}
	l := m.open(1, 2)
	yields := api.Stat{Kind: api.SDo, X: node(api.EYield, m.expr(m.at.Type, 2))}
	again := api.Stat{Kind: api.SWhile, X: truth(1), Body: append(m.block(1, 2), yields)}
	if m.at.Takes == typeBool && m.Intn(2) == 0 {
		again.X, again.Body = yields.X, again.Body[:len(again.Body)-1]
	}
	return append(l, again)
}

// taskBody: most go round and round, from what they receive to what they send.
func (m *maker) taskBody() []api.Stat {
	before := len(m.stands)
	l := m.starts()
	l = append(l, m.open(2, 3)...)
	if m.Intn(4) > 0 {
		l = append(l, m.loop(m.round))
	}
	l = append(l, m.open(2, 3)...)
	m.stands = m.stands[:before]
	return l
}

// starts: what was started stands ready, mostly.
func (m *maker) starts() []api.Stat {
	var l []api.Stat
	for range m.Intn(3) {
		if g := m.pick(func(d api.Def) bool { return d.Kind == api.DGen && m.usable(d) }); g != nil {
			t := api.Type{Kind: api.TyGen, Gen: g.Name}
			l = append(l, m.let(t, m.expr(t, 1)))
		}
	}
	return l
}

func (m *maker) round() []api.Stat {
	var l []api.Stat
	for range m.Intn(3) {
		if b := m.box(1, func(api.Def) bool { return true }); b != nil {
			l = append(l, m.let(b.Type, api.Expr{Kind: api.ERecv, Name: b.Name}))
		}
	}
	l = append(l, m.open(1, 3)...)
	for range m.Intn(3) {
		l = append(l, m.send())
	}
	return l
}

// loop goes round a few times, or without end.
func (m *maker) loop(body func() []api.Stat) api.Stat {
	before := len(m.stands)
	defer func() { m.stands = m.stands[:before] }()
	if m.Intn(4) == 0 {
		return api.Stat{Kind: api.SWhile, X: truth(1), Body: body()}
	}
	let := m.let(typeNum, num(0))
	m.stands[len(m.stands)-1].Name = "i" + let.Name // not a name that is set
	let.Name = "i" + let.Name
	i := name(let.Name)
	less := node(api.ELt, i, num(int64([]int{2, 3, 3, 5, 9, 35}[m.Intn(6)])))
	if m.Intn(3) == 0 {
		less = node(api.EAnd, m.expr(typeBool, 1), less)
	}
	next := api.Stat{Kind: api.SSet, Name: let.Name, X: node(api.EAdd, i, num(1))}
	while := api.Stat{Kind: api.SWhile, X: less, Body: append(body(), next)}
	return api.Stat{Kind: api.SIf, X: truth(1), Body: []api.Stat{let, while}}
}

// open makes some statements, whose names stand on behind them.
func (m *maker) open(deep, most int) []api.Stat {
	var l []api.Stat
	for range m.Intn(most + 1) {
		l = append(l, m.stat(deep))
	}
	return l
}

func (m *maker) block(deep, most int) []api.Stat {
	before := len(m.stands)
	l := m.open(deep, most)
	m.stands = m.stands[:before]
	return l
}

// let takes the first name that stands for nothing: blocks that have ended leave theirs to those behind them.
func (m *maker) let(t api.Type, x api.Expr) api.Stat {
	for n := 0; ; n++ {
		s := fmt.Sprint("v", n)
		if !slices.ContainsFunc(m.stands, func(p api.Param) bool { return p.Name == s || p.Name == "i"+s }) {
			m.stands = append(m.stands, api.Param{Name: s, Type: t})
			return api.Stat{Kind: api.SLet, Name: s, X: x}
		}
	}
}

func (m *maker) send() api.Stat {
	b := m.box(0, func(api.Def) bool { return true })
	if b == nil {
		return api.Stat{Kind: api.SOut, X: m.expr(m.plain(), 2)}
	}
	return api.Stat{Kind: api.SSend, Name: b.Name, X: m.expr(b.Type, 2)}
}

func (m *maker) stat(deep int) api.Stat {
	switch m.Intn(14) {
	case 0, 1, 2:
		t := m.typ()
		return m.let(t, m.expr(t, 2))
	case 3, 4:
		p := m.stands
		if p = slices.DeleteFunc(slices.Clone(p), func(p api.Param) bool { return p.Name[0] != 'v' }); len(p) > 0 {
			to := p[m.Intn(len(p))]
			return api.Stat{Kind: api.SSet, Name: to.Name, X: m.expr(to.Type, 2)}
		}
	case 5, 6:
		if deep > 0 {
			return api.Stat{Kind: api.SIf, X: m.expr(typeBool, 2), Body: m.block(deep-1, 2), Else: m.block(deep-1, 2)}
		}
	case 7:
		if deep > 0 {
			return m.loop(func() []api.Stat { return m.block(deep-1, 2) })
		}
	case 8:
		return m.send()
	case 9:
		return api.Stat{Kind: api.SDo, X: m.expr(m.typ(), 2)}
	case 10:
		if m.at.Kind == api.DFn && m.Intn(2) == 0 {
			return api.Stat{Kind: api.SReturn, X: m.expr(m.at.Type, 2)}
		}
		if m.at.Kind != api.DFn && m.Intn(4) == 0 {
			return api.Stat{Kind: api.SStop}
		}
	}
	return api.Stat{Kind: api.SOut, X: m.expr(m.plain(), 2)}
}

// expr makes an expression of a type.
func (m *maker) expr(t api.Type, deep int) api.Expr {
	if m.Intn(4) == 0 || t.Kind == api.TyGen && m.Intn(8) > 0 {
		for _, i := range m.Perm(len(m.stands)) {
			if m.stands[i].Type == t {
				return name(m.stands[i].Name)
			}
		}
	}
	switch {
	case t.Kind == api.TyGen:
		return m.call(api.EStart, *m.pick(func(d api.Def) bool { return d.Name == t.Gen }), deep-1)
	case deep > 0 && m.Intn(2) == 0:
		return m.spoken(t, deep-1)
	case deep > 0:
		return m.reckoned(t, deep-1)
	case t == typeNum:
		return num(int64(m.Intn(8)))
	}
	return truth(int64(m.Intn(2)))
}

// call: the first parameter bounds how deep it goes.
func (m *maker) call(kind int, d api.Def, deep int) api.Expr {
	x := api.Expr{Kind: kind, Name: d.Name, Kids: []api.Expr{num(int64([]int{0, 1, 1, 2, 3, 60}[m.Intn(6)]))}}
	if m.at.Kind != api.DTask && m.Intn(20) > 0 {
		x.Kids[0] = node(api.ESub, name("n"), num(1))
	}
	for _, p := range d.Params[1:] {
		x.Kids = append(x.Kids, m.expr(p.Type, deep))
	}
	return x
}

// spoken answers an expression of a plain type that comes from elsewhere, if there is one.
func (m *maker) spoken(t api.Type, deep int) api.Expr {
	of := func(kind int) *api.Def {
		return m.pick(func(d api.Def) bool { return d.Kind == kind && d.Type == t && m.usable(d) })
	}
	switch m.Intn(6) {
	case 0:
		if d := of(api.DFn); d != nil {
			return m.call(api.ECall, *d, deep)
		}
	case 1, 2:
		if g := m.known(of(api.DGen), t); g != nil {
			return node(api.EResume, m.expr(api.Type{Kind: api.TyGen, Gen: g.Name}, deep), m.expr(g.Takes, deep))
		}
	case 3:
		if b := m.box(1, func(d api.Def) bool { return d.Type == t }); b != nil {
			return api.Expr{Kind: api.ERecv, Name: b.Name}
		}
	case 4:
		if m.at.Kind == api.DGen && m.at.Takes == t {
			return node(api.EYield, m.expr(m.at.Type, deep))
		}
	case 5:
		g := m.pick(func(d api.Def) bool { return d.Kind == api.DGen && m.usable(d) })
		if g != nil && t == typeBool {
			return node(api.EAlive, m.expr(api.Type{Kind: api.TyGen, Gen: g.Name}, deep))
		}
	}
	return m.reckoned(t, deep)
}

// known answers rather a generator that a name stands for, if it yields that, too.
func (m *maker) known(g *api.Def, t api.Type) *api.Def {
	for _, i := range m.Perm(len(m.stands)) {
		if p := m.stands[i].Type; p.Kind == api.TyGen {
			if h := m.pick(func(d api.Def) bool { return d.Name == p.Gen }); h.Type == t {
				return h
			}
		}
	}
	return g
}

func (m *maker) reckoned(t api.Type, deep int) api.Expr {
	two := func(kind int, t api.Type) api.Expr { return node(kind, m.expr(t, deep), m.expr(t, deep)) }
	if t == typeNum {
		switch kind := api.ENeg + m.Intn(9); kind {
		case api.ENeg:
			return node(kind, m.expr(typeNum, deep))
		case api.EDiv, api.EMod:
			if m.Intn(4) > 0 {
				return node(kind, m.expr(typeNum, deep), num(int64(1+m.Intn(4))))
			}
			return two(kind, typeNum)
		case api.EAdd, api.ESub, api.EMul:
			return two(kind, typeNum)
		}
		return two(api.EAdd, typeNum)
	}
	switch kind := api.EEq + m.Intn(9); kind {
	case api.EEq, api.ENe:
		return two(kind, m.plain())
	case api.EAnd, api.EOr:
		return two(kind, typeBool)
	case api.EOr + 1:
		return node(api.ENot, m.expr(typeBool, deep))
	default:
		return two(kind, typeNum)
	}
}
