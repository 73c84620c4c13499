package source_test

import (
	"fmt"
	"math/rand"
	"slices"
	"testing"

	"yieldshape/api"
	"yieldshape/sema"
)

var (
	typeNum  = api.Type{Kind: api.TyNum}
	typeBool = api.Type{Kind: api.TyBool}
)

// maker makes programs that mean something: tasks, boxes between them, functions and generators of one task, or of all of them (these speak with no box).
type maker struct {
	*rand.Rand
	defs   []api.Def
	whose  map[string]int    // of functions, generators and tasks: which task's they are; -1: everybody's
	ends   map[string][2]int // of boxes: which task sends, which one receives
	at     api.Def           // what is made
	stands []api.Param       // what names stand for here
}

func newMaker(r *rand.Rand) *maker {
	m := &maker{Rand: r, whose: map[string]int{}, ends: map[string][2]int{}}
	tasks := 1 + m.Intn(5)*4/5
	for n := range tasks {
		m.define(api.Def{Kind: api.DTask, Name: fmt.Sprint("t", n)}, n)
	}
	for n := range m.Intn(2 + 2*tasks) {
		d := api.Def{Kind: api.DBox, Name: fmt.Sprint("b", n), Type: m.plain(), Cap: 1 + m.Intn(1+m.Intn(4))}
		m.define(d, -1)
		m.ends[d.Name] = m.pair(tasks)
	}
	for n := range 1 + m.Intn(8) {
		m.unit(fmt.Sprint("u", n), m.Intn(tasks+1)-1)
	}
	for i, d := range m.defs {
		m.at, m.stands = d, slices.Clone(d.Params)
		switch d.Kind {
		case api.DFn:
			m.defs[i].Body = m.fnBody()
		case api.DGen:
			m.defs[i].Body = m.genBody()
		case api.DTask:
			m.defs[i].Body = m.taskBody()
		}
	}
	m.Shuffle(len(m.defs), func(i, j int) { m.defs[i], m.defs[j] = m.defs[j], m.defs[i] })
	return m
}

func (m *maker) define(d api.Def, whose int) {
	m.defs = append(m.defs, d)
	m.whose[d.Name] = whose
}

// pair are who sends to a box, and who receives from it: mostly one further on, else too many tasks would soon wait for each other.
func (m *maker) pair(tasks int) [2]int {
	a, b := m.Intn(tasks), m.Intn(tasks)
	if a == b && m.Intn(4) > 0 {
		b = (a + 1) % tasks
	}
	if m.Intn(6) > 0 {
		return [2]int{min(a, b), max(a, b)}
	}
	return [2]int{a, b}
}

// unit makes the head of a function or a generator; its first parameter bounds how deep it calls others.
func (m *maker) unit(name string, whose int) {
	m.whose[name] = whose
	m.at.Name = name
	d := api.Def{Kind: api.DFn + m.Intn(2), Name: name, Type: m.plain(), Takes: m.plain(), Params: []api.Param{{Name: "n", Type: typeNum}}}
	for i := range m.Intn(3) {
		d.Params = append(d.Params, api.Param{Name: fmt.Sprint("v", i), Type: m.typ()})
	}
	m.define(d, whose)
}

// usable tells whether what is made may speak with d.
func (m *maker) usable(d api.Def) bool {
	return m.whose[d.Name] == -1 || m.whose[d.Name] == m.whose[m.at.Name]
}

func (m *maker) plain() api.Type {
	if m.Intn(3) > 0 {
		return typeNum
	}
	return typeBool
}

// typ: what was started too, of generators that are defined already.
func (m *maker) typ() api.Type {
	if g := m.pick(func(d api.Def) bool { return d.Kind == api.DGen && m.usable(d) }); g != nil && m.Intn(3) == 0 {
		return api.Type{Kind: api.TyGen, Gen: g.Name}
	}
	return m.plain()
}

// pick answers one of the definitions that fit, nil if there is none.
func (m *maker) pick(fits func(api.Def) bool) *api.Def {
	for _, i := range m.Perm(len(m.defs)) {
		if fits(m.defs[i]) {
			return &m.defs[i]
		}
	}
	return nil
}

// box answers a box of the task whose body is made: to which it sends (0), or from which it receives (1).
func (m *maker) box(end int, fits func(api.Def) bool) *api.Def {
	return m.pick(func(d api.Def) bool {
		return d.Kind == api.DBox && m.ends[d.Name][end] == m.whose[m.at.Name] && fits(d)
	})
}

func num(n int64) api.Expr { return api.Expr{Kind: api.ENum, N: n} }

func truth(n int64) api.Expr { return api.Expr{Kind: api.EBool, N: n} }

func name(s string) api.Expr { return api.Expr{Kind: api.EVar, Name: s} }

func node(kind int, kids ...api.Expr) api.Expr { return api.Expr{Kind: kind, Kids: kids} }

// made answers so many programs that mean something.
func made(t *testing.T, seed int64, many int) []*maker {
	t.Helper()
	r := rand.New(rand.NewSource(seed))
	var out []*maker
	for tries := 0; len(out) < many; tries++ {
		m := newMaker(r)
		f := sema.Check(m.defs)
		if f.Err == api.OK {
			out = append(out, m)
		} else if f.Err != api.ErrMuch {
			t.Fatalf("%v: %s", f, text(m.defs))
		}
		if tries > 10*many {
			t.Fatal("too few of them come out")
		}
	}
	return out
}
