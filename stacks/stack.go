package stacks

import (
	"slices"

	"yieldshape/api"
)

// stack has its words in the first cells, from the bottom.
// Its room is how many cells there are, not their capacity, of which the library may give more than it is asked for.
type stack struct {
	cells       []int64
	count       int
	least, most int
}

func (s *stack) room() int { return len(s.cells) }

// words answers a copy: cells that are not in use are nobody's to see.
func (s *stack) words() []int64 { return slices.Clone(s.cells[:s.count]) }

func (s *stack) do(op api.StackOp) api.Errno {
	switch op.Kind {
	case api.StPush:
		return s.push(op.V)
	case api.StPop:
		return s.pop(op.N)
	case api.StSet:
		return s.set(op.N, op.V)
	}
	return api.ErrKind
}

func (s *stack) push(v int64) api.Errno {
	if s.count == s.most {
		return api.ErrMuch
	}
	if s.count == s.room() {
		s.move(min(2*s.room(), s.most))
	}
	s.cells[s.count] = v
	s.count++
	return api.OK
}

// pop gives up half of the room only where a fourth is in use: else a push and a pop by turns could copy all words each time.
func (s *stack) pop(n int) api.Errno {
	if n < 0 || n > s.count {
		return api.ErrRange
	}
	s.count -= n
	if s.count <= s.room()/4 && s.room() > s.least {
		s.move(max(s.room()/2, s.least))
	}
	return api.OK
}

func (s *stack) set(n int, v int64) api.Errno {
	if n < 0 || n >= s.count {
		return api.ErrRange
	}
	s.cells[n] = v
	return api.OK
}

// move copies the words to as many cells as room, which has place for all of them.
func (s *stack) move(room int) {
	cells := make([]int64, room)
	copy(cells, s.cells[:s.count])
	s.cells = cells
}
