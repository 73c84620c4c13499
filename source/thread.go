package source

import "yieldshape/api"

// How it stands with a thread.
const (
	held  = iota // not begun, or it has yielded
	going        // it was resumed
	ended
)

// thread is a generator that was started.
type thread struct {
	stands  int
	wake    then // what comes when it is resumed, told what is passed
	resumer then // what comes after it for whoever has resumed it
}

// start: those that are at their end count too. What is passed at first is lost.
func (t *task) start(d api.Def, words []int64, after then) move {
	if len(t.threads) == api.MaxCos {
		return t.fall(api.TrapMany)
	}
	h := &thread{}
	h.wake = func(int64) move {
		b := &work{task: t, names: named(d.Params, words), thread: h, end: h.over}
		return b.block(d.Body, b.end)
	}
	t.threads = append(t.threads, h)
	return after(int64(len(t.threads) - 1))
}

func (t *task) resume(h *thread, passed int64, after then) move {
	switch h.stands {
	case ended:
		return t.fall(api.TrapDone)
	case going:
		return t.fall(api.TrapBusy)
	}
	h.stands, h.resumer = going, after
	return h.wake(passed)
}

func (h *thread) yield(v int64, after then) move {
	h.stands, h.wake = held, after
	return h.resumer(v)
}

// over: a generator's end is nought to whoever has resumed it.
func (h *thread) over() move {
	h.stands = ended
	return h.resumer(0)
}

func (h *thread) alive() int64 {
	if h.stands == ended {
		return 0
	}
	return 1
}
