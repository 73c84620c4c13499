package sched

import (
	"slices"
	"testing"

	"yieldshape/api"
)

// tellers are tasks that put 1 out so many times each, by two steps a time.
func tellers(rounds ...int) api.Module {
	var m api.Module
	for _, n := range rounds {
		u := api.Unit{Kind: api.DTask}
		for range n {
			u.Code = append(u.Code, api.Instr{Op: api.OpPush, N: 1}, api.Instr{Op: api.OpOut})
		}
		u.Code = append(u.Code, api.Instr{Op: api.OpEnd})
		m.Units = append(m.Units, u)
	}
	return m
}

// order answers which tasks put something out, one after the other.
func order(m api.Module, picks []api.Pick, quantum int) []int {
	w := newWorld(m)
	var l []int
	w.hear(func(e api.Event) {
		if e.Kind == api.EvOut {
			l = append(l, e.Task)
		}
	})
	w.settle(picks, quantum)
	return l
}

// TestJ2Order: the picks, then by turns, behind the one that was last picked and not refused. No answer tells it, for where all comes to rest the end is the same; so it is heard here.
func TestJ2Order(t *testing.T) {
	three := tellers(2, 2, 2)
	pick := func(task, quantum int) api.Pick { return api.Pick{Task: task, Quantum: quantum} }
	for _, c := range []struct {
		m       api.Module
		picks   []api.Pick
		quantum int
		want    []int
	}{
		{three, nil, 2, []int{0, 1, 2, 0, 1, 2}},
		{three, nil, 4, []int{0, 0, 1, 1, 2, 2}},
		{three, nil, 10000, []int{0, 0, 1, 1, 2, 2}},
		{three, []api.Pick{pick(0, 1)}, 4, []int{1, 1, 2, 2, 0, 0}},
		{three, []api.Pick{pick(1, 1)}, 4, []int{2, 2, 0, 0, 1, 1}},
		{three, []api.Pick{pick(2, 1)}, 4, []int{0, 0, 1, 1, 2, 2}},
		{three, []api.Pick{pick(1, 1), pick(0, 1)}, 4, []int{1, 1, 2, 2, 0, 0}},
		// Those that are refused don't count.
		{three, []api.Pick{pick(0, 1), pick(1, 0), pick(2, 10001), pick(3, 1), pick(-1, 1)}, 4, []int{1, 1, 2, 2, 0, 0}},
		{three, []api.Pick{pick(1, 0), pick(5, 1)}, 4, []int{0, 0, 1, 1, 2, 2}},
		{three, []api.Pick{pick(2, 5), pick(0, 1), pick(2, 1)}, 4, []int{2, 2, 1, 1, 0, 0}},
		// Whoever is done is left out; the last one itself follows, if there is no other one.
		{tellers(1, 3, 0, 2), nil, 2, []int{0, 1, 3, 1, 3, 1}},
		{tellers(1, 3, 0, 2), []api.Pick{pick(2, 9)}, 2, []int{3, 0, 1, 3, 1, 1}},
		{tellers(0, 0, 3), nil, 2, []int{2, 2, 2}},
		{tellers(4), []api.Pick{pick(0, 2)}, 1, []int{0, 0, 0, 0}},
	} {
		if got := order(c.m, c.picks, c.quantum); !slices.Equal(got, c.want) {
			t.Errorf("%d tasks, %v, then by %d: %v; want %v", len(c.m.Units), c.picks, c.quantum, got, c.want)
		}
	}
}
