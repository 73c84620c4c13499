package graph

import (
	"yieldshape/api"
	"yieldshape/verify"
)

// nobody is the number of no task.
const nobody = -1

// link is what is done with a box, by its number.
type link struct{ op, box int }

// doers are the tasks, by their numbers among tasks, that come to what is done with boxes.
type doers map[link]int

// speakers are those of a module that Verify lets through: one at most of each link.
func speakers(m api.Module) doers {
	who := doers{}
	task := 0
	for n, u := range m.Units {
		if u.Kind != api.DTask {
			continue
		}
		verify.Comes(m, n, func(op, box int) { who[link{op, box}] = task })
		task++
	}
	return who
}

// awaited answers for whom a task waits that stands so.
func (who doers) awaited(e api.End) int {
	if task, ok := who[link{helps(e.State), e.Box}]; ok {
		return task
	}
	return nobody
}

// helps answers what somebody must do with the box of a task that stands so, for it to go on; none, if it waits for no box.
func helps(state int) int {
	switch state {
	case api.Sending:
		return api.OpRecv
	case api.Waiting:
		return api.OpSend
	}
	return 0
}
