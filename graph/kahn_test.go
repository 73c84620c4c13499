package graph_test

import (
	"reflect"
	"slices"
	"testing"

	"yieldshape/api"
	"yieldshape/gen"
	"yieldshape/graph"
	"yieldshape/sched"
)

// rests answers the world in which all tasks of a program have come to rest; whether they do.
func rests(t *testing.T, what string, l []api.Def) (api.Module, api.World, bool) {
	t.Helper()
	m, f := gen.Compile(l)
	if f.Err != api.OK {
		t.Fatalf("%s: %v", what, f)
	}
	w, err := sched.Settle(m, nil, 100)
	return m, w, err == api.OK
}

// TestWhoWaits: for somebody's end, or in a circle; nobody for one that waits at the same box.
func TestWhoWaits(t *testing.T) {
	ends, circles := 0, 0
	for _, p := range made(t, 154, 3000) {
		if _, box := p.arrows(); box >= 0 {
			continue
		}
		m, w, ok := rests(t, p.text, p.defs)
		if !ok {
			continue
		}
		l, err := graph.Waits(m, nil, 100)
		if err != api.OK || len(l) != len(w.Tasks) {
			t.Fatalf("%s: %v, %v", p.text, l, err)
		}
		for n := range l {
			at := n
			for i := 0; i < len(l) && l[at] >= 0; i++ {
				if next := l[at]; next != at && w.Tasks[next].State < api.Done && w.Tasks[next].Box == w.Tasks[at].Box {
					t.Fatalf("%s: %d and %d wait at one box", p.text, at, next)
				}
				at = l[at]
			}
			if l[at] >= 0 {
				circles++
			} else if at != n {
				ends++
				if s := w.Tasks[at].State; s == api.Ready {
					t.Fatalf("%s: %d waits for %d, which may go on", p.text, n, at)
				}
			}
		}
	}
	if ends < 300 || circles < 300 {
		t.Errorf("%d wait for an end, %d in a circle: that tells too little", ends, circles)
	}
}

// around answers the names of all tasks with which one speaks, over others too.
func around(task string, l []api.Edge) []string {
	out := []string{task}
	for i := 0; i < len(out); i++ {
		for _, e := range l {
			if e.From == out[i] && !slices.Contains(out, e.To) {
				out = append(out, e.To)
			}
			if e.To == out[i] && !slices.Contains(out, e.From) {
				out = append(out, e.From)
			}
		}
	}
	return out
}

// TestWhoDoesNotSpeak: who does not speak with each other, by Edges, does not hear of each other: the others may as well do nothing.
func TestWhoDoesNotSpeak(t *testing.T) {
	several := 0
	for _, p := range made(t, 155, 3000) {
		if _, box := p.arrows(); box >= 0 {
			continue
		}
		m, w, ok := rests(t, p.text, p.defs)
		if !ok {
			continue
		}
		l, _ := graph.Edges(p.defs)
		whole, _ := graph.Waits(m, nil, 100)
		tasks := p.of(api.DTask)
		for n, task := range tasks {
			group := around(p.defs[task].Name, l)
			alone := slices.Clone(p.defs)
			for _, other := range tasks {
				if !slices.Contains(group, p.defs[other].Name) {
					alone[other].Body = nil
				}
			}
			part, then, ok := rests(t, p.text, alone)
			if !ok || !reflect.DeepEqual(then.Tasks[n], w.Tasks[n]) {
				t.Fatalf("%s: task %d: %v; with those alone with whom it speaks: %v", p.text, n, w.Tasks[n], then.Tasks)
			}
			if got, _ := graph.Waits(part, nil, 100); got[n] != whole[n] {
				t.Fatalf("%s: task %d waits for %d; with those alone with whom it speaks: %d", p.text, n, whole[n], got[n])
			}
			if 1 < len(group) && len(group) < len(tasks) {
				several++
			}
		}
	}
	if several < 500 {
		t.Errorf("%d speak with others, and not with all: that tells too little", several)
	}
}

// TestOrderIsThatOfEdges: each task stands once, behind all from which it receives, or is left with one of them.
func TestOrderIsThatOfEdges(t *testing.T) {
	checked := 0
	for _, p := range made(t, 156, 3000) {
		l, f := graph.Edges(p.defs)
		order, left, _ := graph.Order(p.defs)
		if f.Err != api.OK {
			continue
		}
		all := append(slices.Clone(order), left...)
		slices.Sort(all)
		names := p.names(p.of(api.DTask))
		slices.Sort(names)
		if !slices.Equal(all, names) {
			t.Fatalf("%s: %q and %q", p.text, order, left)
		}
		for _, e := range l {
			from, to := slices.Index(order, e.From), slices.Index(order, e.To)
			if to >= 0 && (from < 0 || from >= to) {
				t.Fatalf("%s: %v: %q and %q", p.text, e, order, left)
			}
			checked++
		}
		for _, name := range left {
			if !slices.ContainsFunc(l, func(e api.Edge) bool { return e.To == name && slices.Contains(left, e.From) }) {
				t.Fatalf("%s: %s is left, though all stand there from whom it receives: %q", p.text, name, order)
			}
		}
	}
	if checked < 1000 {
		t.Errorf("%d edges: that tells too little", checked)
	}
}
