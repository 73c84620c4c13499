package verify

import "yieldshape/api"

// known is what is known at an instruction. It is a value: whoever goes on with a copy changes nothing elsewhere.
type known struct {
	stack
	filled
}

// stack is types, one on top of the other. Its cells never change, so that stacks may have those below in common.
type stack struct {
	top   *cell
	depth int
}

type cell struct {
	kind  int
	below *cell
}

func (s *stack) push(t int) { *s = stack{&cell{t, s.top}, s.depth + 1} }

// pop takes from a stack that has something.
func (s *stack) pop() int {
	t := s.top.kind
	*s = stack{s.top.below, s.depth - 1}
	return t
}

// same goes down only to the first cell that both have in common.
func (s stack) same(o stack) bool {
	if s.depth != o.depth {
		return false
	}
	for a, b := s.top, o.top; a != b; a, b = a.below, b.below {
		if a.kind != b.kind {
			return false
		}
	}
	return true
}

const wordBits = 64

// filled is which locals have something: a bit for each.
type filled [(api.MaxLocals + wordBits - 1) / wordBits]uint64

func (l filled) has(n int) bool { return l[n/wordBits]>>(n%wordBits)&1 == 1 }

func (l *filled) fill(n int) { l[n/wordBits] |= 1 << (n % wordBits) }

// both is which locals have something in l and in o.
func (l filled) both(o filled) filled {
	for i := range l {
		l[i] &= o[i]
	}
	return l
}
