package verify

import "yieldshape/api"

// link is what is done with a box, by its number.
type link struct{ op, box int }

// owners: no two tasks send to one box, nor receive from one.
func (m module) owners() api.Where {
	tasks := map[link]int{} // how many come to it
	for n, u := range m.Units {
		if u.Kind != api.DTask {
			continue
		}
		mine := map[link]int{}
		Comes(m.Module, n, func(op, box int) { mine[link{op, box}]++ })
		for l := range mine {
			tasks[l]++
		}
	}
	for n := range m.Boxes {
		if tasks[link{api.OpSend, n}] > 1 || tasks[link{api.OpRecv, n}] > 1 {
			return api.Where{Err: api.ErrFit, At: n}
		}
	}
	return api.Where{}
}

// Comes calls tell with each OpSend and each OpRecv, and its box, of all code that somebody comes to from a unit on, whether it is ever reached or not. What the code of m calls and starts must be there, as Verify sees to it.
func Comes(m api.Module, unit int, tell func(op, box int)) {
	row := []int{unit}
	met := map[int]int{unit: 1}
	for i := 0; i < len(row); i++ {
		for _, c := range m.Units[row[i]].Code {
			switch c.Op {
			case api.OpSend, api.OpRecv:
				tell(c.Op, c.A)
			case api.OpCall, api.OpStart:
				// Each unit is gone through once, so that this ends where units call each other in a circle.
				if met[c.A]++; met[c.A] == 1 {
					row = append(row, c.A)
				}
			}
		}
	}
}
