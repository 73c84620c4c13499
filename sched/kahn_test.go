package sched_test

import (
	"math/rand"
	"slices"
	"testing"

	"yieldshape/api"
	"yieldshape/sched"
	"yieldshape/vm"
)

// randomPicks of so many tasks, none of which is refused but for how the task stands.
func randomPicks(r *rand.Rand, tasks int) []api.Pick {
	var l []api.Pick
	most := []int{1, 3, 30}[r.Intn(3)]
	for range r.Intn(api.MaxPicks + 1) {
		l = append(l, api.Pick{Task: r.Intn(tasks), Quantum: 1 + r.Intn(most)})
	}
	return l
}

// TestKahnOneEnd: whoever is picked, however long, where all comes to rest the end is the same.
func TestKahnOneEnd(t *testing.T) {
	r := rand.New(rand.NewSource(1974))
	rest := 0
	for _, p := range made(t, 1974, 600) {
		want, wantErr := sched.Settle(p.m, nil, 100)
		for range 6 {
			l, quantum := randomPicks(r, p.tasks), 1+r.Intn(1+r.Intn(500))
			if w, err := sched.Settle(p.m, l, quantum); err != wantErr || !same(w, want) {
				t.Fatalf("%s\nSettle of %v by %d = %+v, %v; want %+v, %v", p.text, l, quantum, w, err, want, wantErr)
			}
		}
		if wantErr == api.OK {
			rest++
		}
	}
	if rest < 300 {
		t.Errorf("%d come to rest: that tells too little", rest)
	}
}

// by answers what a task does, of all events.
func by(task int, l []api.Event) []api.Event {
	return slices.DeleteFunc(slices.Clone(l), func(e api.Event) bool { return e.Task != task })
}

// TestKahnOneTale: whoever is picked, each task does the same, further or less far.
func TestKahnOneTale(t *testing.T) {
	r := rand.New(rand.NewSource(74))
	long := 0
	for _, p := range made(t, 74, 600) {
		one, _ := sched.Trace(p.m, randomPicks(r, p.tasks))
		other, _ := sched.Trace(p.m, randomPicks(r, p.tasks))
		for n := range p.tasks {
			a, b := by(n, one), by(n, other)
			both := min(len(a), len(b))
			if !slices.Equal(a[:both], b[:both]) {
				t.Fatalf("%s\ntask %d does %v, and with other picks %v", p.text, n, a, b)
			}
			long += min(both/3, 1)
		}
	}
	if long < 300 {
		t.Errorf("%d tasks do something: that tells too little", long)
	}
}

// told is what came of picks, as the events tell it.
type told struct {
	sent  [][]int64
	took  []int
	outs  [][]int64
	over  []int // Done, Trapped, or 0
	traps []int
}

func tell(boxes, tasks int, l []api.Event) told {
	o := told{make([][]int64, boxes), make([]int, boxes), make([][]int64, tasks), make([]int, tasks), make([]int, tasks)}
	for _, e := range l {
		switch e.Kind {
		case api.EvOut:
			o.outs[e.Task] = append(o.outs[e.Task], e.V)
		case api.EvSend:
			o.sent[e.Box] = append(o.sent[e.Box], e.V)
		case api.EvRecv:
			o.took[e.Box]++
		case api.EvDone:
			o.over[e.Task] = api.Done
		case api.EvTrap:
			o.over[e.Task], o.traps[e.Task] = api.Trapped, int(e.V)
		}
	}
	return o
}

// TestTraceTellsTheWorld: what Run answers of outs, boxes and ends is what Trace tells of the same picks.
func TestTraceTellsTheWorld(t *testing.T) {
	for _, p := range made(t, 3, 600) {
		w, _, _ := sched.Run(p.m, p.picks)
		events, _ := sched.Trace(p.m, p.picks)
		o := tell(len(p.m.Boxes), p.tasks, events)
		for n, e := range w.Tasks {
			over := e.State
			if over != api.Done && over != api.Trapped {
				over = 0
			}
			if !slices.Equal(e.Out, o.outs[n]) || over != o.over[n] || e.Trap != o.traps[n] {
				t.Fatalf("%s\n%v: task %d: %+v; the events tell %+v", p.text, p.picks, n, e, o)
			}
		}
		for n, l := range w.Boxes {
			if !slices.Equal(l, o.sent[n][o.took[n]:]) {
				t.Fatalf("%s\n%v: box %d: %v; the events tell %+v", p.text, p.picks, n, l, o)
			}
		}
	}
}

// settled answers picks by turns with which all comes to rest; nil, if as many as there may be don't do.
func settled(p play) []api.Pick {
	var l []api.Pick
	for n := range api.MaxPicks {
		l = append(l, api.Pick{Task: n % p.tasks, Quantum: 2000})
	}
	w, _, _ := sched.Run(p.m, l)
	if slices.ContainsFunc(w.Tasks, func(e api.End) bool { return e.State == api.Ready }) {
		return nil
	}
	return l
}

// TestKahnFixedPoint: where all comes to rest each task has done what it does by itself, fed with all that was sent.
func TestKahnFixedPoint(t *testing.T) {
	rest, spoke := 0, 0
	for _, p := range made(t, 7, 600) {
		l := settled(p)
		if l == nil {
			continue
		}
		w, did, _ := sched.Run(p.m, l)
		events, _ := sched.Trace(p.m, l)
		o := tell(len(p.m.Boxes), p.tasks, events)
		steps := make([]int, p.tasks)
		for i, d := range did {
			steps[l[i].Task] += d.Steps
		}
		for n, e := range w.Tasks {
			if steps[n] > api.MaxSolo {
				continue
			}
			r, err := vm.Solo(p.m, n, o.sent, steps[n])
			// By itself it waits for no place, but is just as far.
			state := e.State
			if state == api.Sending {
				state, e.Box = api.Ready, 0
			}
			if err != api.OK || r.State != state || r.Box != e.Box || r.Trap != e.Trap || !slices.Equal(r.Out, e.Out) || r.Steps != steps[n] {
				t.Fatalf("%s\ntask %d: %+v, after %d steps; by itself, fed %v: %+v, %v", p.text, n, e, steps[n], o.sent, r, err)
			}
			rest++
			spoke += min(len(slices.Concat(r.Sent...)), 1)
		}
	}
	if rest < 500 || spoke < 100 {
		t.Errorf("%d tasks at rest, %d of which sent something: that tells too little", rest, spoke)
	}
}

// TestWiderBoxesSayNoLess: what tasks put out is the beginning of what they do with more places.
func TestWiderBoxesSayNoLess(t *testing.T) {
	r := rand.New(rand.NewSource(20))
	more := 0
	for _, p := range made(t, 20, 1200) {
		slim, err := sched.Settle(p.m, nil, 100)
		wide := p.m
		wide.Boxes = slices.Clone(p.m.Boxes)
		for n := range wide.Boxes {
			wide.Boxes[n].Cap += r.Intn(3)
		}
		w, wideErr := sched.Settle(wide, nil, 100)
		if err != api.OK || wideErr != api.OK {
			continue
		}
		for n, e := range slim.Tasks {
			if out := w.Tasks[n].Out; len(out) < len(e.Out) || !slices.Equal(out[:len(e.Out)], e.Out) {
				t.Fatalf("%s\ntask %d puts %v out, with wider boxes %v", p.text, n, e.Out, out)
			}
		}
		if w.Steps > slim.Steps {
			more++
		}
	}
	if more < 20 {
		t.Errorf("%d do more with wider boxes: that tells too little", more)
	}
}
