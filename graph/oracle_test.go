package graph_test

import (
	"slices"

	"yieldshape/api"
)

// farther adds to what is said in notes who reaches whom over each third one.
func farther(notes map[said]int, many int) {
	for over := range many {
		for from := range many {
			for to := range many {
				if notes[said{from, reaches, over}] > 0 && notes[said{over, reaches, to}] > 0 {
					notes[said{from, reaches, to}]++
				}
			}
		}
	}
}

// speakers answers which of the tasks say that of a box, themselves or by whom they reach; notes were made farther.
func speakers(notes map[said]int, tasks []int, many, what, box int) []int {
	var out []int
	for _, n := range tasks {
		for by := range many {
			if (by == n || notes[said{n, reaches, by}] > 0) && notes[said{by, what, box}] > 0 {
				out = append(out, n)
				break
			}
		}
	}
	return out
}

// of answers the numbers of definitions of a kind.
func (p program) of(kind int) []int {
	var out []int
	for n, d := range p.defs {
		if d.Kind == kind {
			out = append(out, n)
		}
	}
	return out
}

// arrow is a box between two tasks, by the numbers of definitions: -1, if there is no such one.
type arrow struct{ box, from, to int }

// arrows answers those of all boxes, and the first box that has too many tasks at an end; -1, if none has.
func (p program) arrows() ([]arrow, int) {
	farther(p.notes, len(p.defs))
	var out []arrow
	for _, box := range p.of(api.DBox) {
		from := append(speakers(p.notes, p.of(api.DTask), len(p.defs), sends, box), -1)
		to := append(speakers(p.notes, p.of(api.DTask), len(p.defs), receives, box), -1)
		if len(from) > 2 || len(to) > 2 {
			return nil, box
		}
		out = append(out, arrow{box, from[0], to[0]})
	}
	return out, -1
}

func (p program) edges(l []arrow) []api.Edge {
	var out []api.Edge
	for _, a := range l {
		if a.from >= 0 && a.to >= 0 {
			out = append(out, api.Edge{Box: p.defs[a.box].Name, From: p.defs[a.from].Name, To: p.defs[a.to].Name})
		}
	}
	return out
}

func (p program) names(l []int) []string {
	var out []string
	for _, n := range l {
		out = append(out, p.defs[n].Name)
	}
	return out
}

// order answers who stands in no circle and behind none, in the first of all rows of them in which all stand behind those from which they receive; and the others.
func (p program) order(l []arrow) (order, left []int) {
	behind := map[said]int{}
	for _, a := range l {
		if a.from >= 0 && a.to >= 0 {
			behind[said{a.from, reaches, a.to}]++
		}
	}
	farther(behind, len(p.defs))
	for _, n := range p.of(api.DTask) {
		circle := false
		for _, other := range p.of(api.DTask) {
			loops := behind[said{other, reaches, other}] > 0
			circle = circle || loops && (other == n || behind[said{other, reaches, n}] > 0)
		}
		if circle {
			left = append(left, n)
		} else {
			order = append(order, n)
		}
	}
	return firstRow(nil, order, behind), left
}

// firstRow goes through the rows that begin with begun, in their order, up to one that fits; nil, if none does.
func firstRow(begun, rest []int, behind map[said]int) []int {
	if len(rest) == 0 {
		return begun
	}
	for i, n := range rest {
		if slices.ContainsFunc(begun, func(other int) bool { return behind[said{n, reaches, other}] > 0 }) {
			continue
		}
		others := slices.Delete(slices.Clone(rest), i, i+1)
		if row := firstRow(append(slices.Clone(begun), n), others, behind); row != nil {
			return row
		}
	}
	return nil
}

// waits answers of each task, as they stand, for whom it waits, by what is said of boxes; notes were made farther.
func waits(notes map[said]int, tasks []int, many int, box func(int) int, ends []api.End) []int {
	var out []int
	for _, e := range ends {
		var who []int
		if e.State == api.Sending {
			who = speakers(notes, tasks, many, receives, box(e.Box))
		}
		if e.State == api.Waiting {
			who = speakers(notes, tasks, many, sends, box(e.Box))
		}
		if len(who) == 0 {
			out = append(out, -1)
		} else {
			out = append(out, slices.Index(tasks, who[0]))
		}
	}
	return out
}
