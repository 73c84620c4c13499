package vm

import (
	"yieldshape/api"
	"yieldshape/stacks"
)

// How it stands with a thread.
const (
	fresh = iota // not begun
	held         // it has yielded
	going        // it is at hand, or waits for one that it has resumed
	ended
)

// thread is a task's own, or that of a generator which was started (promise I1).
type thread struct {
	*stacks.Stack
	units   []work // at work, the innermost one last
	stands  int
	resumer *thread
}

// work is a unit at work: its locals lie on the stack from base on, what it reckons with above them.
type work struct {
	code       []api.Instr
	next, base int
}

// leastRoom keeps small what never holds much: a task may have many threads.
const leastRoom = 8

// newThread answers one of that unit alone, with these parameters; its other locals are 0.
func newThread(u api.Unit, params []int64) *thread {
	s, _ := stacks.New(leastRoom, api.MaxWords)
	h := &thread{Stack: s}
	for _, v := range params {
		h.Push(v)
	}
	h.enter(u) // no unit has more locals than there is room for
	return h
}

// enter lets a unit come to work, whose parameters lie on top. It answers whether there is room for its other locals.
func (h *thread) enter(u api.Unit) bool {
	base := h.Len() - u.Params
	for range len(u.Locals) - u.Params {
		if h.Push(0) != api.OK {
			return false
		}
	}
	h.units = append(h.units, work{code: u.Code, base: base})
	return true
}

// leave lets the innermost unit go, with its locals and all above.
func (h *thread) leave() {
	h.Pop(h.Len() - h.inner().base)
	h.units = h.units[:len(h.units)-1]
}

func (h *thread) inner() *work { return &h.units[len(h.units)-1] }

// next answers the instruction that is to be done.
func (h *thread) next() api.Instr {
	w := h.inner()
	return w.code[w.next]
}

// take takes the word on top.
func (h *thread) take() int64 {
	v := h.Word(h.Len() - 1)
	h.Pop(1)
	return v
}

// takeList takes n words, and answers them from the lowest one on.
func (h *thread) takeList(n int) []int64 {
	l := make([]int64, n)
	for i := range l {
		l[i] = h.Word(h.Len() - n + i)
	}
	h.Pop(n)
	return l
}
