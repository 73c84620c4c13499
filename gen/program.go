package gen

import "yieldshape/api"

// program is a module whose boxes and units are known by the names of their definitions.
type program struct {
	api.Module
	numbers map[string]int // of boxes among boxes, of all others among units
}

// newProgram answers the module with the heads of all units, without code yet: bodies may speak with whatever stands behind them.
func newProgram(l []api.Def) program {
	p := program{numbers: map[string]int{}}
	p.count(l)
	for _, d := range l {
		if d.Kind == api.DBox {
			p.Boxes = append(p.Boxes, api.BoxInfo{Type: p.typed(d.Type), Cap: d.Cap})
		} else {
			p.Units = append(p.Units, p.head(d))
		}
	}
	return p
}

func (p program) count(l []api.Def) {
	boxes, units := 0, 0
	for _, d := range l {
		if d.Kind == api.DBox {
			p.numbers[d.Name] = boxes
			boxes++
		} else {
			p.numbers[d.Name] = units
			units++
		}
	}
}

// head answers a unit that has its parameters alone; what stands in the fields that a kind has not stays out of it.
func (p program) head(d api.Def) api.Unit {
	u := api.Unit{Kind: d.Kind}
	if d.Kind == api.DTask {
		return u
	}
	u.Params, u.Result = len(d.Params), p.typed(d.Type)
	for _, q := range d.Params {
		u.Locals = append(u.Locals, p.typed(q.Type))
	}
	if d.Kind == api.DGen {
		u.Takes = p.typed(d.Takes)
	}
	return u
}

// typed answers the type as it is in modules.
func (p program) typed(t api.Type) int {
	switch t.Kind {
	case api.TyNum:
		return number
	case api.TyBool:
		return truth
	}
	return api.Handle + p.numbers[t.Gen]
}
