package sema_test

import (
	"fmt"
	"math/rand"
	"slices"
	"testing"

	"yieldshape/api"
	"yieldshape/syn"
)

// maker makes programs that mean something, as they are picked by what is random, and notes who speaks with whom.
type maker struct {
	*rand.Rand
	defs   []api.Def
	at     int
	scopes [][]api.Param
	fresh  int
	broken bool // it came to no end
	// noted of pairs of definitions: who sends to a box, receives from it, calls or starts another one
	sends, receives, calls map[[2]int]bool
}

func newMaker(seed int64) *maker {
	m := &maker{Rand: rand.New(rand.NewSource(seed)), sends: map[[2]int]bool{}, receives: map[[2]int]bool{}, calls: map[[2]int]bool{}}
	kinds := []int{api.DTask}
	for range 2 + m.Intn(8) {
		kinds = append(kinds, 1+m.Intn(4))
	}
	m.Shuffle(len(kinds), func(i, j int) { kinds[i], kinds[j] = kinds[j], kinds[i] })
	for i, kind := range kinds {
		m.defs = append(m.defs, api.Def{Kind: kind, Name: fmt.Sprint("d", i)})
	}
	for i := range m.defs {
		m.head(&m.defs[i])
	}
	for i := range m.defs {
		m.at = i
		m.scopes = [][]api.Param{m.defs[i].Params}
		if m.defs[i].Kind != api.DBox {
			m.defs[i].Body = m.block(2)
		}
	}
	return m
}

func (m *maker) head(d *api.Def) {
	d.Type = m.plain()
	switch d.Kind {
	case api.DBox:
		d.Cap = 1 + m.Intn(api.MaxCap)
		return
	case api.DTask:
		d.Type = api.Type{}
		return
	case api.DGen:
		d.Takes = m.plain()
	}
	for i := range m.Intn(3) {
		d.Params = append(d.Params, api.Param{Name: fmt.Sprint("p", i), Type: m.typ()})
	}
}

func (m *maker) plain() api.Type { return []api.Type{typeNum, typeBool}[m.Intn(2)] }

func (m *maker) typ() api.Type {
	if n := m.def(func(d api.Def) bool { return d.Kind == api.DGen }); n >= 0 && m.Intn(3) == 0 {
		return typeGen(m.defs[n].Name)
	}
	return m.plain()
}

// def picks the number of one of the definitions that fit, -1 if there is none.
func (m *maker) def(fits func(api.Def) bool) int {
	for _, i := range m.Perm(len(m.defs)) {
		if fits(m.defs[i]) {
			return i
		}
	}
	return -1
}

func (m *maker) block(deep int) []api.Stat {
	m.scopes = append(m.scopes, nil)
	defer func() { m.scopes = m.scopes[:len(m.scopes)-1] }()
	var l []api.Stat
	for range m.Intn(4) {
		l = append(l, m.stat(deep))
	}
	return l
}

func (m *maker) stat(deep int) api.Stat {
	s := api.Stat{Kind: 1 + m.Intn(9)}
	switch s.Kind {
	case api.SLet:
		y := m.typ()
		s.X = m.expr(y, 2)
		s.Name = fmt.Sprint("v", m.fresh)
		m.fresh++
		top := len(m.scopes) - 1
		m.scopes[top] = append(m.scopes[top], api.Param{Name: s.Name, Type: y})
		return s
	case api.SSet:
		if p, ok := m.variable(func(api.Type) bool { return true }); ok {
			s.Name, s.X = p.Name, m.expr(p.Type, 2)
			return s
		}
	case api.SIf, api.SWhile:
		if deep > 0 {
			s.X, s.Body = m.expr(typeBool, 2), m.block(deep-1)
			if s.Kind == api.SIf {
				s.Else = m.block(deep - 1)
			}
			return s
		}
	case api.SReturn, api.SStop:
		if m.defs[m.at].Kind == api.DFn {
			return api.Stat{Kind: api.SReturn, X: m.expr(m.defs[m.at].Type, 2)}
		}
		return api.Stat{Kind: api.SStop}
	case api.SSend:
		if n := m.def(func(d api.Def) bool { return d.Kind == api.DBox }); n >= 0 {
			m.sends[[2]int{m.at, n}] = true
			s.Name, s.X = m.defs[n].Name, m.expr(m.defs[n].Type, 2)
			return s
		}
	case api.SDo:
		return api.Stat{Kind: api.SDo, X: m.expr(m.typ(), 2)}
	}
	return api.Stat{Kind: api.SOut, X: m.expr(m.plain(), 2)}
}

// variable picks one of those that stand here.
func (m *maker) variable(fits func(api.Type) bool) (api.Param, bool) {
	all := slices.Concat(m.scopes...)
	for _, i := range m.Perm(len(all)) {
		if fits(all[i].Type) {
			return all[i], true
		}
	}
	return api.Param{}, false
}

func (m *maker) expr(y api.Type, deep int) api.Expr {
	if m.Intn(3) == 0 {
		if p, ok := m.variable(func(other api.Type) bool { return other == y }); ok {
			return api.Expr{Kind: api.EVar, Name: p.Name}
		}
	}
	if y.Kind == api.TyGen {
		return m.call(m.def(func(d api.Def) bool { return d.Name == y.Gen }), api.EStart, deep)
	}
	if deep > 0 {
		if x, ok := m.deep(y, deep-1); ok {
			return x
		}
	}
	if y == typeNum {
		return num(m.Int63n(10))
	}
	return api.Expr{Kind: api.EBool, N: m.Int63n(2)}
}

func (m *maker) call(n, kind, deep int) api.Expr {
	m.calls[[2]int{m.at, n}] = true
	x := api.Expr{Kind: kind, Name: m.defs[n].Name}
	for _, p := range m.defs[n].Params {
		if p.Type.Kind == api.TyGen && deep < -3 { // generators that ask for each other: there may be no end
			m.broken = true
			return x
		}
		x.Kids = append(x.Kids, m.expr(p.Type, deep-1))
	}
	return x
}

func (m *maker) node(kind int, deep int, types ...api.Type) api.Expr {
	x := api.Expr{Kind: kind}
	for _, y := range types {
		x.Kids = append(x.Kids, m.expr(y, deep))
	}
	return x
}

// deep makes an expression of a plain type by what has kids, or comes from elsewhere.
func (m *maker) deep(y api.Type, deep int) (api.Expr, bool) {
	switch m.Intn(6) {
	case 0:
		if n := m.def(func(d api.Def) bool { return d.Kind == api.DFn && d.Type == y }); n >= 0 {
			return m.call(n, api.ECall, deep), true
		}
	case 1:
		if n := m.def(func(d api.Def) bool { return d.Kind == api.DBox && d.Type == y }); n >= 0 {
			m.receives[[2]int{m.at, n}] = true
			return api.Expr{Kind: api.ERecv, Name: m.defs[n].Name}, true
		}
	case 2:
		if d := m.defs[m.at]; d.Kind == api.DGen && d.Takes == y {
			return m.node(api.EYield, deep, d.Type), true
		}
	case 3:
		if n := m.def(func(d api.Def) bool { return d.Kind == api.DGen && d.Type == y }); n >= 0 {
			return m.node(api.EResume, deep, typeGen(m.defs[n].Name), m.defs[n].Takes), true
		}
	case 4:
		if n := m.def(func(d api.Def) bool { return d.Kind == api.DGen }); n >= 0 && y == typeBool {
			return m.node(api.EAlive, deep, typeGen(m.defs[n].Name)), true
		}
	}
	if y == typeNum {
		if m.Intn(4) == 0 {
			return m.node(api.ENeg, deep, typeNum), true
		}
		return m.node(api.EAdd+m.Intn(5), deep, typeNum, typeNum), true
	}
	switch m.Intn(4) {
	case 0:
		return m.node(api.ENot, deep, typeBool), true
	case 1:
		return m.node(api.ELt+m.Intn(4), deep, typeNum, typeNum), true
	case 2:
		return m.node(api.EAnd+m.Intn(2), deep, typeBool, typeBool), true
	}
	both := m.plain()
	return m.node(api.EEq+m.Intn(2), deep, both, both), true
}

// said answers what Owners must say of the program, by going from each definition to each other one over each third one.
func (m *maker) said() ([]api.Owner, api.Fault) {
	reaches := map[[2]int]bool{}
	for pair := range m.calls {
		reaches[pair] = true
	}
	for over := range m.defs {
		for from := range m.defs {
			for to := range m.defs {
				if reaches[[2]int{from, over}] && reaches[[2]int{over, to}] {
					reaches[[2]int{from, to}] = true
				}
			}
		}
	}
	who := func(box int, does map[[2]int]bool) []string {
		out := []string{}
		for task, d := range m.defs {
			if d.Kind != api.DTask {
				continue
			}
			for unit := range m.defs {
				if (unit == task || reaches[[2]int{task, unit}]) && does[[2]int{unit, box}] {
					out = append(out, d.Name)
					break
				}
			}
		}
		return out
	}
	var owners []api.Owner
	for i, d := range m.defs {
		if d.Kind != api.DBox {
			continue
		}
		writers, readers := who(i, m.sends), who(i, m.receives)
		if len(writers) > 1 || len(readers) > 1 {
			return nil, fault(api.ErrFit, i)
		}
		owners = append(owners, owner(d.Name, append(writers, "")[0], append(readers, "")[0]))
	}
	return owners, api.Fault{}
}

// made answers programs that mean something; those that came out too great are left out.
func made(t *testing.T, many int) []*maker {
	var out []*maker
	for seed := int64(0); len(out) < many; seed++ {
		m := newMaker(seed)
		if !m.broken && syn.Wrong(m.defs).Err == api.OK {
			out = append(out, m)
		}
		if seed > int64(10*many) {
			t.Fatal("too few of them come out")
		}
	}
	return out
}

func TestC1RandomPrograms(t *testing.T) {
	owned, unfit := 0, 0
	for _, m := range made(t, 2000) {
		text, _ := syn.Print(m.defs)
		owners, f := m.said()
		if f.Err != api.OK {
			unfit++
			wantFaultOf(t, text, m.defs, f)
			continue
		}
		if len(owners) > 0 && owners[0].Writer != "" {
			owned++
		}
		wantOwnersOf(t, text, m.defs, owners)
	}
	if owned < 100 || unfit < 100 {
		t.Errorf("%d programs with owners, and %d that don't fit, are too few", owned, unfit)
	}
}

// places are all expressions of a definition.
func places(d *api.Def) []*api.Expr {
	var out []*api.Expr
	var expr func(x *api.Expr)
	expr = func(x *api.Expr) {
		out = append(out, x)
		for i := range x.Kids {
			expr(&x.Kids[i])
		}
	}
	var block func(l []api.Stat)
	block = func(l []api.Stat) {
		for i := range l {
			if l[i].Kind != api.SStop {
				expr(&l[i].X)
			}
			block(l[i].Body)
			block(l[i].Else)
		}
	}
	block(d.Body)
	return out
}

// TestC3PlantedFaults: one expression is put in the place of another, and its error is told, at its definition; if two are planted in two definitions, the first one's.
func TestC3PlantedFaults(t *testing.T) {
	plants := []struct {
		x    api.Expr
		want api.Errno
	}{
		{api.Expr{Kind: api.EVar, Name: "none"}, api.ErrName},
		{api.Expr{Kind: api.ECall, Name: "none"}, api.ErrName},
		{api.Expr{Kind: api.ERecv, Name: "none"}, api.ErrName},
		{api.Expr{Kind: api.ENot, Kids: []api.Expr{num(1)}}, api.ErrType},
		{api.Expr{Kind: api.EAlive, Kids: []api.Expr{num(1)}}, api.ErrType},
	}
	planted := 0
	for seed, m := range made(t, 300) {
		r := rand.New(rand.NewSource(int64(seed)))
		first := -1
		want := api.Fault{}
		for i := range m.defs {
			l := places(&m.defs[i])
			if len(l) == 0 || r.Intn(2) == 0 {
				continue
			}
			p := plants[r.Intn(len(plants))]
			*l[r.Intn(len(l))] = p.x
			if first < 0 {
				first, want = i, fault(p.want, i)
			}
		}
		if first >= 0 && syn.Wrong(m.defs).Err == api.OK {
			planted++
			text, _ := syn.Print(m.defs)
			wantFaultOf(t, text, m.defs, want)
		}
	}
	if planted < 100 {
		t.Errorf("%d programs are too few", planted)
	}
}
