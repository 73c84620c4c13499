package graph_test

import (
	"math/rand"
	"slices"
	"testing"

	"yieldshape/api"
	"yieldshape/gen"
	"yieldshape/graph"
	"yieldshape/sched"
	"yieldshape/verify"
)

// TestO1RandomPrograms: edges and orders are those of a second reckoning.
func TestO1RandomPrograms(t *testing.T) {
	unfit, moved, circles, rich := 0, 0, 0, 0
	for _, p := range made(t, 15, 4000) {
		arrows, box := p.arrows()
		if box >= 0 {
			unfit++
			wantFault(t, p.text, p.defs, api.ErrFit, box)
			continue
		}
		wantEdgesOf(t, p.text, p.defs, p.edges(arrows))
		order, left := p.order(arrows)
		wantOrderOf(t, p.text, p.defs, p.names(order), p.names(left))
		if t.Failed() {
			return
		}
		rich += min(len(p.edges(arrows))/2, 1)
		circles += min(len(left), len(order), 1)
		if !slices.IsSorted(order) {
			moved++
		}
	}
	if unfit < 100 || moved < 200 || circles < 100 || rich < 500 {
		t.Errorf("%d don't fit, %d orders are not those of the list, %d have circles beside others, %d have edges: that tells too little", unfit, moved, circles, rich)
	}
}

// tally counts how tasks stand, and for whom they wait.
type tally struct{ sending, waiting, nobody, itself, others, rest, errors int }

func (c *tally) add(ends []api.End, waits []int) {
	for n, e := range ends {
		switch e.State {
		case api.Sending:
			c.sending++
		case api.Waiting:
			c.waiting++
		default:
			c.rest++
			continue
		}
		switch waits[n] {
		case -1:
			c.nobody++
		case n:
			c.itself++
		default:
			c.others++
		}
	}
}

func (c *tally) tells(t *testing.T, least int) {
	t.Helper()
	if min(c.sending, c.waiting, c.nobody, c.itself, c.others, c.rest, c.errors) < least {
		t.Errorf("%+v: that tells too little", *c)
	}
}

func randomPicks(r *rand.Rand) []api.Pick {
	var l []api.Pick
	for range r.Intn(1 + r.Intn(30)) {
		l = append(l, api.Pick{Task: r.Intn(6) - 1, Quantum: r.Intn(20)})
	}
	return l
}

// TestO2RandomPrograms: as it is said in the text who sends and who receives.
func TestO2RandomPrograms(t *testing.T) {
	r := rand.New(rand.NewSource(152))
	var c tally
	for _, p := range made(t, 151, 4000) {
		if _, box := p.arrows(); box >= 0 {
			continue
		}
		m, f := gen.Compile(p.defs)
		if f.Err != api.OK {
			t.Fatalf("%s: %v", p.text, f)
		}
		boxes := p.of(api.DBox)
		picks, quantum := randomPicks(r), 1+r.Intn(60)
		w, err := sched.Settle(m, picks, quantum)
		if err != api.OK {
			c.errors++
			wantErr(t, p.text, m, picks, quantum, err)
			continue
		}
		want := waits(p.notes, p.of(api.DTask), len(p.defs), func(n int) int { return boxes[n] }, w.Tasks)
		if got, err := graph.Waits(m, picks, quantum); err != api.OK || !slices.Equal(got, want) {
			t.Fatalf("%s: Waits of %v by %d = %v, %v; want %v", p.text, picks, quantum, got, err, want)
		}
		c.add(w.Tasks, want)
	}
	c.tells(t, 40)
}

// moduleMaker makes modules whose units speak, call and start in code that is come to, and in code behind it that never is.
type moduleMaker struct {
	*rand.Rand
	api.Module
	home    []int // of each unit
	to, fro []int // of each box, whose units send to it, and receive from it
}

func (k *moduleMaker) make() api.Module {
	kinds := []int{api.DTask}
	for range 1 + k.Intn(7) {
		kinds = append(kinds, []int{api.DTask, api.DTask, api.DFn, api.DGen}[k.Intn(4)])
	}
	k.Shuffle(len(kinds), func(i, j int) { kinds[i], kinds[j] = kinds[j], kinds[i] })
	k.Module, k.home, k.to, k.fro = api.Module{}, nil, nil, nil
	for n, kind := range kinds {
		k.Units = append(k.Units, api.Unit{Kind: kind, Result: number, Takes: number})
		home := n
		for kind != api.DTask && kinds[home] != api.DTask {
			home = k.Intn(len(kinds))
		}
		k.home = append(k.home, home)
	}
	for range 1 + k.Intn(6) {
		k.Boxes = append(k.Boxes, api.BoxInfo{Type: number, Cap: 1 + k.Intn(2)})
		k.to, k.fro = append(k.to, k.home[k.Intn(len(kinds))]), append(k.fro, k.home[k.Intn(len(kinds))])
	}
	for n := range k.Units {
		k.Units[n].Code = k.code(n)
	}
	return k.Module
}

func (k *moduleMaker) code(n int) []api.Instr {
	var out []api.Instr
	for range k.Intn(5) {
		switch c := k.link(n); c.Op {
		case api.OpSend:
			out = append(out, api.Instr{Op: api.OpPush, N: 1}, c)
		case 0:
			out = append(out, api.Instr{Op: api.OpPush, N: 1}, api.Instr{Op: api.OpOut})
		default:
			out = append(out, c, api.Instr{Op: api.OpDrop})
		}
	}
	switch u := k.Units[n]; {
	case u.Kind == api.DFn:
		out = append(out, code("push 1, ret")...)
	case u.Kind == api.DTask && k.Intn(3) == 0:
		out = append(out, code("jump 0")...)
	default:
		out = append(out, code("end")...)
	}
	for range k.Intn(4) {
		if c := k.link(n); c.Op != 0 {
			out = append(out, c)
		}
	}
	return out
}

// link is what unit n does with a box or a unit of its own, or, seldom, of any; none, if the first one thought of is not its own.
func (k *moduleMaker) link(n int) api.Instr {
	any := k.Intn(40) == 0
	box, unit := k.Intn(len(k.Boxes)), k.Intn(len(k.Units))
	switch k.Intn(3) {
	case 0:
		if any || k.to[box] == k.home[n] {
			return api.Instr{Op: api.OpSend, A: box}
		}
	case 1:
		if any || k.fro[box] == k.home[n] {
			return api.Instr{Op: api.OpRecv, A: box}
		}
	default:
		if any || k.home[unit] == k.home[n] {
			return api.Instr{Op: map[int]int{api.DFn: api.OpCall, api.DGen: api.OpStart}[k.Units[unit].Kind], A: unit}
		}
	}
	return api.Instr{}
}

// TestO2RandomModules: whether an instruction is ever reached does not matter.
func TestO2RandomModules(t *testing.T) {
	k := moduleMaker{Rand: rand.New(rand.NewSource(153))}
	var c tally
	for range 8000 {
		m := k.make()
		notes, tasks := map[said]int{}, []int{}
		for n, u := range m.Units {
			if u.Kind == api.DTask {
				tasks = append(tasks, n)
			}
			for _, c := range u.Code {
				switch c.Op {
				case api.OpSend, api.OpRecv:
					notes[said{n, c.Op, c.A}]++
				case api.OpCall, api.OpStart:
					notes[said{n, reaches, c.A}]++
				}
			}
		}
		farther(notes, len(m.Units))
		picks, quantum := randomPicks(k.Rand), 1+k.Intn(60)
		w, err := sched.Settle(m, picks, quantum)
		if err != api.OK {
			c.errors++
			wantErr(t, "a module", m, picks, quantum, err)
			if err != api.ErrFit && err != api.ErrSteps {
				t.Fatalf("%v: %v", m, verify.Verify(m))
			}
			continue
		}
		want := waits(notes, tasks, len(m.Units), func(n int) int { return n }, w.Tasks)
		if got, err := graph.Waits(m, picks, quantum); err != api.OK || !slices.Equal(got, want) {
			t.Fatalf("%v: Waits of %v by %d = %v, %v; want %v", m, picks, quantum, got, err, want)
		}
		c.add(w.Tasks, want)
	}
	c.tells(t, 100)
}
