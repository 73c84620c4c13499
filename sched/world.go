package sched

import (
	"yieldshape/api"
	"yieldshape/mail"
	"yieldshape/vm"
)

// world is all tasks of a module, and the boxes between them.
type world struct {
	tasks []*vm.Task
	boxes []*mail.Box
	steps int // of all tasks
	last  int // the task that was last picked and not refused; ahead of all, at first
}

// newWorld is that of a module which Verify lets through: all tasks ahead of their first instructions, all boxes empty.
func newWorld(m api.Module) *world {
	w := &world{last: -1}
	var boxes []vm.Box
	for _, info := range m.Boxes {
		b, _ := mail.New(info.Cap) // Verify has seen to Cap
		w.boxes = append(w.boxes, b)
		boxes = append(boxes, b)
	}
	w.tasks = vm.NewTasks(m, boxes)
	return w
}

// hear lets hear be called with each thing that a task does from now on.
func (w *world) hear(hear func(api.Event)) {
	for n, t := range w.tasks {
		t.Hear(func(e api.Event) {
			e.Task = n
			hear(e)
		})
	}
}

// follow does one pick after the other, and answers what came of each.
func (w *world) follow(picks []api.Pick) []api.Did {
	var did []api.Did
	for _, p := range picks {
		did = append(did, w.pick(p))
	}
	return did
}

// pick lets a task go on, if nothing speaks against it.
func (w *world) pick(p api.Pick) api.Did {
	if err := w.refusal(p); err != api.OK {
		return api.Did{Err: err}
	}
	steps := w.tasks[p.Task].Run(min(p.Quantum, api.MaxRun-w.steps))
	w.steps += steps
	w.last = p.Task
	return api.Did{Steps: steps}
}

func (w *world) refusal(p api.Pick) api.Errno {
	switch {
	case p.Task < 0 || p.Task >= len(w.tasks):
		return api.ErrRange
	case !isQuantum(p.Quantum):
		return api.ErrMany
	case !w.tasks[p.Task].Ready():
		return api.ErrState
	case w.steps >= api.MaxRun:
		return api.ErrSteps
	}
	return api.OK
}

// settle does the picks, then picks whoever is Ready, by turns, until nobody is: ErrSteps, if that takes too many.
func (w *world) settle(picks []api.Pick, quantum int) api.Errno {
	w.follow(picks)
	for n := w.following(); n >= 0; n = w.following() {
		if did := w.pick(api.Pick{Task: n, Quantum: quantum}); did.Err != api.OK {
			return did.Err
		}
	}
	return api.OK
}

// following answers the first task that is Ready behind the last one, all the way round to that one itself; -1, if there is none.
func (w *world) following() int {
	for i := range w.tasks {
		n := (w.last + 1 + i) % len(w.tasks)
		if w.tasks[n].Ready() {
			return n
		}
	}
	return -1
}

func (w *world) end() api.World {
	out := api.World{Steps: w.steps}
	for _, t := range w.tasks {
		out.Tasks = append(out.Tasks, t.End())
	}
	for _, b := range w.boxes {
		out.Boxes = append(out.Boxes, b.Words())
	}
	return out
}
