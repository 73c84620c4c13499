package sema

import (
	"slices"
	"strings"

	"yieldshape/api"
)

// talk is to which boxes somebody sends, from which ones he receives, and what he calls or starts: numbers of definitions.
type talk struct {
	sends, receives, calls []int
}

// reached answers the talk of a task and of all that it calls or starts, however far off, each once.
func reached(talks []talk, task int) talk {
	out := talk{calls: []int{task}}
	for i := 0; i < len(out.calls); i++ {
		t := talks[out.calls[i]]
		out.sends = append(out.sends, t.sends...)
		out.receives = append(out.receives, t.receives...)
		for _, n := range t.calls {
			if !slices.Contains(out.calls, n) {
				out.calls = append(out.calls, n)
			}
		}
	}
	return out
}

// owners answers whose the boxes are (promise C1).
func (p program) owners(talks []talk) []api.Owner {
	tasks := make([]talk, len(p.defs)) // who is no task says nothing
	for i, d := range p.defs {
		if d.Kind == api.DTask {
			tasks[i] = reached(talks, i)
		}
	}
	var out []api.Owner
	for i, d := range p.defs {
		if d.Kind == api.DBox {
			out = append(out, api.Owner{
				Box:    strings.Clone(d.Name),
				Writer: look{p, i}.only(func(task int) bool { return slices.Contains(tasks[task].sends, i) }),
				Reader: look{p, i}.only(func(task int) bool { return slices.Contains(tasks[task].receives, i) }),
			})
		}
	}
	return out
}

// only answers the name of the one that speaks, if there is one: more than one don't fit.
func (k look) only(speaks func(task int) bool) string {
	name := ""
	for i, d := range k.defs {
		if !speaks(i) {
			continue
		}
		if name != "" {
			k.fail(api.ErrFit)
		}
		name = strings.Clone(d.Name)
	}
	return name
}
