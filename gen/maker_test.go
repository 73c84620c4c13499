package gen_test

import (
	"fmt"
	"math/rand"
	"slices"
	"testing"

	"yieldshape/api"
	"yieldshape/sema"
)

var (
	typeNum  = api.Type{Kind: api.TyNum}
	typeBool = api.Type{Kind: api.TyBool}
)

// maker makes programs that mean something, and notes of which type each let is.
type maker struct {
	*rand.Rand
	defs   []api.Def
	at     int           // the definition that is made
	stands []api.Param   // what names stand for here
	lets   [][]api.Param // of each definition, as they stand
}

func newMaker(r *rand.Rand) *maker {
	m := &maker{Rand: r}
	kinds := []int{api.DTask}
	for range m.Intn(9) {
		kinds = append(kinds, 1+m.Intn(4))
	}
	m.Shuffle(len(kinds), func(i, j int) { kinds[i], kinds[j] = kinds[j], kinds[i] })
	for i, kind := range kinds {
		m.defs = append(m.defs, api.Def{Kind: kind, Name: fmt.Sprint("d", i)})
	}
	m.lets = make([][]api.Param, len(kinds))
	for i := range m.defs {
		m.head(&m.defs[i])
	}
	for i, d := range m.defs {
		m.at, m.stands = i, slices.Clone(d.Params)
		if d.Kind != api.DBox {
			m.defs[i].Body = m.block(3)
		}
	}
	return m
}

func (m *maker) head(d *api.Def) {
	if d.Kind == api.DTask {
		return
	}
	d.Type = m.plain()
	if d.Kind == api.DBox {
		d.Cap = 1 + m.Intn(api.MaxCap)
		return
	}
	if d.Kind == api.DGen {
		d.Takes = m.plain()
	}
	for i := range m.Intn(4) {
		d.Params = append(d.Params, api.Param{Name: fmt.Sprint("p", i), Type: m.typ()})
	}
}

func (m *maker) plain() api.Type {
	if m.Intn(2) == 0 {
		return typeNum
	}
	return typeBool
}

func (m *maker) typ() api.Type {
	if g := m.pick(func(d api.Def) bool { return d.Kind == api.DGen }); g != nil && m.Intn(3) == 0 {
		return api.Type{Kind: api.TyGen, Gen: g.Name}
	}
	return m.plain()
}

// pick answers one of the definitions that fit, nil if there is none.
func (m *maker) pick(fits func(api.Def) bool) *api.Def {
	for _, i := range m.Perm(len(m.defs)) {
		if fits(m.defs[i]) {
			return &m.defs[i]
		}
	}
	return nil
}

func (m *maker) block(deep int) []api.Stat {
	before := len(m.stands)
	var l []api.Stat
	for range m.Intn(5) {
		l = append(l, m.stat(deep))
	}
	m.stands = m.stands[:before]
	return l
}

func (m *maker) stat(deep int) api.Stat {
	d := m.defs[m.at]
	switch kind := 1 + m.Intn(9); kind {
	case api.SLet:
		return m.let()
	case api.SSet:
		if len(m.stands) > 0 {
			p := m.stands[m.Intn(len(m.stands))]
			return api.Stat{Kind: kind, Name: p.Name, X: m.expr(p.Type, 3)}
		}
	case api.SIf:
		if deep > 0 {
			return api.Stat{Kind: kind, X: m.expr(typeBool, 2), Body: m.block(deep - 1), Else: m.block(deep - 1)}
		}
	case api.SWhile:
		if deep > 0 {
			return api.Stat{Kind: kind, X: m.expr(typeBool, 2), Body: m.block(deep - 1)}
		}
	case api.SReturn, api.SStop:
		if d.Kind == api.DFn {
			return api.Stat{Kind: api.SReturn, X: m.expr(d.Type, 3)}
		}
		return api.Stat{Kind: api.SStop}
	case api.SSend:
		if b := m.pick(func(d api.Def) bool { return d.Kind == api.DBox }); b != nil {
			return api.Stat{Kind: kind, Name: b.Name, X: m.expr(b.Type, 3)}
		}
	case api.SDo:
		return api.Stat{Kind: kind, X: m.expr(m.typ(), 3)}
	}
	return api.Stat{Kind: api.SOut, X: m.expr(m.plain(), 3)}
}

// let takes the first name that stands for nothing: blocks that have ended leave theirs to those behind them.
func (m *maker) let() api.Stat {
	t := m.typ()
	s := api.Stat{Kind: api.SLet, X: m.expr(t, 3)}
	for n := 0; s.Name == ""; n++ {
		name := fmt.Sprint("v", n)
		if !slices.ContainsFunc(m.stands, func(p api.Param) bool { return p.Name == name }) {
			s.Name = name
		}
	}
	p := api.Param{Name: s.Name, Type: t}
	m.stands = append(m.stands, p)
	m.lets[m.at] = append(m.lets[m.at], p)
	return s
}

func (m *maker) expr(t api.Type, deep int) api.Expr {
	if m.Intn(3) == 0 || t.Kind == api.TyGen {
		for _, i := range m.Perm(len(m.stands)) {
			if m.stands[i].Type == t {
				return api.Expr{Kind: api.EVar, Name: m.stands[i].Name}
			}
		}
	}
	if t.Kind == api.TyGen {
		return m.call(api.EStart, *m.pick(func(d api.Def) bool { return d.Name == t.Gen }), deep-1)
	}
	if deep > 0 {
		return m.great(t, deep-1)
	}
	if t == typeNum {
		return api.Expr{Kind: api.ENum, N: m.Int63n(1_000_000_000_000_000) >> m.Intn(50)}
	}
	return api.Expr{Kind: api.EBool, N: m.Int63n(2)}
}

// call: generators that ask for each other may come to no end; then there are too few kids, and the program means nothing.
func (m *maker) call(kind int, d api.Def, deep int) api.Expr {
	x := api.Expr{Kind: kind, Name: d.Name}
	for _, p := range d.Params {
		if deep > -5 {
			x.Kids = append(x.Kids, m.expr(p.Type, deep))
		}
	}
	return x
}

func (m *maker) node(kind, deep int, types ...api.Type) api.Expr {
	x := api.Expr{Kind: kind}
	for _, t := range types {
		x.Kids = append(x.Kids, m.expr(t, deep))
	}
	return x
}

// great answers an expression of a plain type that has kids, or comes from elsewhere.
func (m *maker) great(t api.Type, deep int) api.Expr {
	d := m.pick(func(d api.Def) bool {
		return d.Kind != api.DTask && (d.Type == t || t == typeBool && d.Kind == api.DGen)
	})
	here := m.defs[m.at]
	switch {
	case here.Kind == api.DGen && here.Takes == t && m.Intn(4) == 0:
		return m.node(api.EYield, deep, here.Type)
	case d == nil || m.Intn(2) == 0:
		return m.reckoned(t, deep)
	case d.Kind == api.DFn:
		return m.call(api.ECall, *d, deep)
	case d.Kind == api.DBox:
		return api.Expr{Kind: api.ERecv, Name: d.Name}
	case d.Type == t && m.Intn(2) == 0:
		return m.node(api.EResume, deep, api.Type{Kind: api.TyGen, Gen: d.Name}, d.Takes)
	case t == typeBool:
		return m.node(api.EAlive, deep, api.Type{Kind: api.TyGen, Gen: d.Name})
	}
	return m.reckoned(t, deep)
}

func (m *maker) reckoned(t api.Type, deep int) api.Expr {
	if t == typeNum {
		kind := api.EAdd + m.Intn(6)
		if kind > api.EMod {
			return m.node(api.ENeg, deep, typeNum)
		}
		return m.node(kind, deep, typeNum, typeNum)
	}
	switch kind := api.EEq + m.Intn(9); kind {
	case api.EEq, api.ENe:
		both := m.plain()
		return m.node(kind, deep, both, both)
	case api.EAnd, api.EOr:
		return m.node(kind, deep, typeBool, typeBool)
	case api.EOr + 1:
		return m.node(api.ENot, deep, typeBool)
	default:
		return m.node(kind, deep, typeNum, typeNum)
	}
}

// made answers so many programs that mean something.
func made(t *testing.T, seed int64, many int) []*maker {
	t.Helper()
	r := rand.New(rand.NewSource(seed))
	var out []*maker
	for tries := 0; len(out) < many; tries++ {
		if m := newMaker(r); sema.Check(m.defs).Err == api.OK {
			out = append(out, m)
		}
		if tries > 10*many {
			t.Fatal("too few of them come out")
		}
	}
	return out
}
