package source

import (
	"slices"

	"yieldshape/api"
	"yieldshape/mail"
	"yieldshape/throw"
)

// world is all tasks of a program, and the boxes between them.
type world struct {
	units   map[string]api.Def // functions and generators
	numbers map[string]int     // of boxes, among boxes
	boxes   []*mail.Box
	tasks   []*task
	steps   int // nodes that were come to, by all tasks
}

// newWorld is that of a program which Check lets through: all tasks ahead of their first statements, all boxes empty.
func newWorld(l []api.Def) *world {
	w := &world{units: map[string]api.Def{}, numbers: map[string]int{}}
	for _, d := range l {
		switch d.Kind {
		case api.DBox:
			b, _ := mail.New(d.Cap) // Check has seen to Cap
			w.numbers[d.Name] = len(w.boxes)
			w.boxes = append(w.boxes, b)
		case api.DTask:
			w.tasks = append(w.tasks, newTask(w, d))
		default:
			w.units[d.Name] = d
		}
	}
	return w
}

// come counts a node that is come to: with one too many the whole play is thrown out of, wherever it is.
func (w *world) come() {
	w.steps++
	if w.steps > api.MaxWork {
		throw.Fault(api.ErrSteps, 0)
	}
}

// play lets each task go on as far as it can, until none can.
func (w *world) play() {
	for slices.ContainsFunc(w.tasks, (*task).ready) {
		for _, t := range w.tasks {
			t.run()
		}
	}
}

func (w *world) answer() api.World {
	out := api.World{Steps: w.steps}
	for _, t := range w.tasks {
		out.Tasks = append(out.Tasks, t.End)
	}
	for _, b := range w.boxes {
		out.Boxes = append(out.Boxes, b.Words())
	}
	return out
}
