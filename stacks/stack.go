package stacks

import (
	"slices"

	"yieldshape/api"
)

// Stack has its words in the first cells, from the bottom.
// Its room is how many cells there are, not their capacity, of which the library may give more than it is asked for.
type Stack struct {
	cells       []int64
	count       int
	least, most int
}

// New answers a stack without words, with room for least, and for no more than most: ErrRange, if none may be like that.
func New(least, most int) (*Stack, api.Errno) {
	if least < 1 || most < least || most > api.MaxWords {
		return nil, api.ErrRange
	}
	return &Stack{cells: make([]int64, least), least: least, most: most}, api.OK
}

// Len is how many words there are.
func (s *Stack) Len() int { return s.count }

// Word answers the word with that number, from the bottom; 0, if there is none.
func (s *Stack) Word(n int) int64 {
	if n < 0 || n >= s.count {
		return 0
	}
	return s.cells[n]
}

func (s *Stack) room() int { return len(s.cells) }

// words answers a copy: cells that are not in use are nobody's to see.
func (s *Stack) words() []int64 { return slices.Clone(s.cells[:s.count]) }

func (s *Stack) do(op api.StackOp) api.Errno {
	switch op.Kind {
	case api.StPush:
		return s.Push(op.V)
	case api.StPop:
		return s.Pop(op.N)
	case api.StSet:
		return s.Set(op.N, op.V)
	}
	return api.ErrKind
}

// Push lays v on top: ErrMuch, if there are as many words as there may be.
func (s *Stack) Push(v int64) api.Errno {
	if s.count == s.most {
		return api.ErrMuch
	}
	if s.count == s.room() {
		s.move(min(2*s.room(), s.most))
	}
	s.cells[s.count] = v
	s.count++
	return api.OK
}

// Pop takes n words from the top: ErrRange, if there are not as many.
// It gives up half of the room only where a fourth is in use: else a push and a pop by turns could copy all words each time.
func (s *Stack) Pop(n int) api.Errno {
	if n < 0 || n > s.count {
		return api.ErrRange
	}
	s.count -= n
	if s.count <= s.room()/4 && s.room() > s.least {
		s.move(max(s.room()/2, s.least))
	}
	return api.OK
}

// Set lays v in place of the word with that number, from the bottom: ErrRange, if there is none.
func (s *Stack) Set(n int, v int64) api.Errno {
	if n < 0 || n >= s.count {
		return api.ErrRange
	}
	s.cells[n] = v
	return api.OK
}

// move copies the words to as many cells as room, which has place for all of them.
func (s *Stack) move(room int) {
	cells := make([]int64, room)
	copy(cells, s.cells[:s.count])
	s.cells = cells
}
