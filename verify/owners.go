package verify

import "yieldshape/api"

// link is what is done with a box, or with another unit, by its number.
type link struct{ op, to int }

// owners: no two tasks send to one box, nor receive from one.
func (m module) owners() api.Where {
	tasks := map[link]int{} // how many come to it
	for n, u := range m.Units {
		if u.Kind != api.DTask {
			continue
		}
		links := map[link]int{}
		m.gather(n, links)
		for l := range links {
			tasks[l]++
		}
	}
	for n := range m.Boxes {
		if tasks[link{api.OpSend, n}] > 1 || tasks[link{api.OpRecv, n}] > 1 {
			return api.Where{Err: api.ErrFit, At: n}
		}
	}
	return api.Where{}
}

// gather notes the links of all code that somebody comes to from a unit on, whether it is ever reached or not.
func (m module) gather(n int, links map[link]int) {
	for _, c := range m.Units[n].Code {
		l := link{c.Op, c.A}
		switch c.Op {
		case api.OpSend, api.OpRecv:
			links[l]++
		case api.OpCall, api.OpStart:
			links[l]++
			// Each unit is gone through once, so that this ends where units call each other in a circle.
			if links[l] == 1 {
				m.gather(c.A, links)
			}
		}
	}
}
