package vm

import "yieldshape/api"

// task goes on step by step, in a module that Verify lets through (promise I1).
type task struct {
	api.Module
	boxes   []Box
	threads []*thread // its own, then those of generators, as they were started: what was started is, as a word, its place here
	hand    *thread   // the one that is at hand
	out     []int64
	over    int // Done or Trapped; 0, while it is going
	trap    int
}

// newTask answers the task of a unit, ahead of its first instruction.
func newTask(m api.Module, unit int, boxes []Box) *task {
	own := newThread(m.Units[unit], nil)
	own.stands = going
	return &task{Module: m, boxes: boxes, threads: []*thread{own}, hand: own}
}

// state answers how the task stands, and with which box (promise I2).
func (t *task) state() (state, box int) {
	if t.over != 0 {
		return t.over, 0
	}
	c := t.hand.next()
	switch {
	case c.Op == api.OpSend && t.boxes[c.A].Full():
		return api.Sending, c.A
	case c.Op == api.OpRecv && t.boxes[c.A].Empty():
		return api.Waiting, c.A
	}
	return api.Ready, 0
}

func (t *task) ready() bool {
	state, _ := t.state()
	return state == api.Ready
}

// run takes up to most steps, as long as the task is Ready, and answers how many it took.
func (t *task) run(most int) int {
	steps := 0
	for steps < most && t.ready() {
		t.step()
		steps++
	}
	return steps
}

func (t *task) fall(trap int) { t.over, t.trap = api.Trapped, trap }

// put lays a word on top of the thread that is at hand.
func (t *task) put(v int64) {
	if t.hand.Push(v) != api.OK {
		t.fall(api.TrapStack)
	}
}

func (t *task) putTruth(is bool) { t.put(truthWord(is)) }
