package vm

import (
	"slices"

	"yieldshape/api"
)

// Task goes on step by step, in a module that Verify lets through (promise I1).
type Task struct {
	units   []api.Unit
	boxes   []Box
	hear    func(api.Event)
	threads []*thread // its own, then those of generators, as they were started: what was started is, as a word, its place here
	hand    *thread   // the one that is at hand
	out     []int64
	over    int // Done or Trapped; 0, while it is going
	trap    int
}

// NewTasks answers the tasks of a module that Verify lets through, in order, ahead of their first instructions; boxes are one for each of the module's.
func NewTasks(m api.Module, boxes []Box) []*Task {
	var l []*Task
	for _, unit := range tasks(m) {
		l = append(l, newTask(m, unit, boxes))
	}
	return l
}

// tasks answers which units are tasks, in order.
func tasks(m api.Module) []int {
	var l []int
	for n, u := range m.Units {
		if u.Kind == api.DTask {
			l = append(l, n)
		}
	}
	return l
}

// newTask answers the task of a unit, whom nobody hears.
func newTask(m api.Module, unit int, boxes []Box) *Task {
	own := newThread(m.Units[unit], nil)
	own.stands = going
	return &Task{units: m.Units, boxes: boxes, hear: func(api.Event) {}, threads: []*thread{own}, hand: own}
}

// Hear lets hear be called with each thing that the task does from now on; the event's Task is 0, for a task doesn't know its number.
func (t *Task) Hear(hear func(api.Event)) { t.hear = hear }

// End answers how the task stands, and what it has put out.
func (t *Task) End() api.End {
	state, box := t.state()
	return api.End{State: state, Box: box, Trap: t.trap, Out: slices.Clone(t.out)}
}

// state answers how the task stands, and with which box (promise I2).
func (t *Task) state() (state, box int) {
	if t.over != 0 {
		return t.over, 0
	}
	c := t.hand.next()
	switch {
	case c.Op == api.OpSend && t.boxes[c.A].Full():
		return api.Sending, c.A
	case c.Op == api.OpRecv && t.boxes[c.A].Empty():
		return api.Waiting, c.A
	}
	return api.Ready, 0
}

// Ready tells whether the task may go on.
func (t *Task) Ready() bool {
	state, _ := t.state()
	return state == api.Ready
}

// Run takes up to most steps, as long as the task is Ready, and answers how many it took.
func (t *Task) Run(most int) int {
	steps := 0
	for steps < most && t.Ready() {
		t.step()
		steps++
	}
	return steps
}

func (t *Task) fall(trap int) {
	t.over, t.trap = api.Trapped, trap
	t.hear(api.Event{Kind: api.EvTrap, V: int64(trap)})
}

// put lays a word on top of the thread that is at hand.
func (t *Task) put(v int64) {
	if t.hand.Push(v) != api.OK {
		t.fall(api.TrapStack)
	}
}

func (t *Task) putTruth(is bool) { t.put(truthWord(is)) }
