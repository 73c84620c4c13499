package source

import "yieldshape/api"

// move is a piece of what a task does. It answers the piece that comes after it, or nil, where the task stands.
// So pieces don't lie one above the other on the language's own stack, however many come after each other.
type move func() move

// then is what comes after something of which a word comes: it is told that word.
type then func(v int64) move

// task is how it stands with a task, and what it has put out.
type task struct {
	*world
	api.End
	next    move      // what comes as soon as it can go on
	threads []*thread // as they were started: what was started is, as a word, its place here
}

// newTask answers the task of a definition, ahead of its first statement.
func newTask(w *world, d api.Def) *task {
	t := &task{world: w, End: api.End{State: api.Ready}}
	b := &work{task: t, names: map[string]int64{}, end: t.done}
	t.next = b.block(d.Body, b.end)
	return t
}

// ready tells whether the task can go on.
func (t *task) ready() bool {
	switch t.State {
	case api.Sending:
		return !t.boxes[t.Box].Full()
	case api.Waiting:
		return !t.boxes[t.Box].Empty()
	}
	return t.State == api.Ready
}

// run lets the task go on as far as it can.
func (t *task) run() {
	for t.ready() {
		t.State, t.Box = api.Ready, 0
		for m := t.next; m != nil; {
			m = m()
		}
	}
}

// stand lets the task stand at a box; next comes as soon as the box lets it.
func (t *task) stand(state, box int, next move) move {
	t.State, t.Box, t.next = state, box, next
	return nil
}

func (t *task) send(box int, v int64, after move) move {
	return t.stand(api.Sending, box, func() move {
		t.boxes[box].Put(v)
		return after
	})
}

func (t *task) recv(box int, after then) move {
	return t.stand(api.Waiting, box, func() move { return after(t.boxes[box].Take()) })
}

func (t *task) done() move {
	t.State = api.Done
	return nil
}

// fall: nothing comes after a trap.
func (t *task) fall(trap int) move {
	t.State, t.Trap = api.Trapped, trap
	return nil
}
