package vm

import "yieldshape/api"

// step does the next instruction of a task that is Ready (promise I2).
func (t *Task) step() {
	h := t.hand
	c := h.next()
	w := h.inner()
	w.next++ // ahead of what it does: a jump, or a unit that comes to work, says otherwise
	switch c.Op {
	case api.OpPush:
		t.put(c.N)
	case api.OpTruth:
		t.put(int64(c.A))
	case api.OpLoad:
		t.put(h.Word(w.base + c.A))
	case api.OpStore:
		h.Set(w.base+c.A, h.take())
	case api.OpDrop:
		h.take()
	case api.OpNeg:
		t.put(-h.take())
	case api.OpNot:
		t.put(1 - h.take())
	case api.OpJump:
		w.next = c.A
	case api.OpElse:
		if h.take() == 0 {
			w.next = c.A
		}
	case api.OpSend:
		t.send(c.A)
	case api.OpRecv:
		t.recv(c.A)
	case api.OpOut:
		t.putOut()
	default:
		t.speak(c)
	}
}

func (t *Task) send(box int) {
	v := t.hand.take()
	t.boxes[box].Put(v)
	t.hear(api.Event{Kind: api.EvSend, Box: box, V: v})
}

// recv is heard ahead of the trap that there may be no room for the word: it is taken nevertheless.
func (t *Task) recv(box int) {
	v := t.boxes[box].Take()
	t.hear(api.Event{Kind: api.EvRecv, Box: box, V: v})
	t.put(v)
}

func (t *Task) putOut() {
	v := t.hand.take()
	t.out = append(t.out, v)
	t.hear(api.Event{Kind: api.EvOut, V: v})
}

// speak does what units and threads have to do with each other; what is left reckons with two words.
func (t *Task) speak(c api.Instr) {
	switch c.Op {
	case api.OpCall:
		t.call(t.units[c.A])
	case api.OpRet:
		t.ret()
	case api.OpStart:
		t.start(c.A)
	case api.OpResume:
		t.resume()
	case api.OpYield:
		t.giveBack(held, t.hand.take())
	case api.OpEnd:
		t.end()
	case api.OpAlive:
		h := t.threads[t.hand.take()]
		t.putTruth(h.stands != ended)
	default:
		t.reckon(c.Op)
	}
}

func (t *Task) reckon(op int) {
	second := t.hand.take()
	first := t.hand.take()
	v, trap := Reckon(op, first, second)
	if trap != 0 {
		t.fall(trap)
		return
	}
	t.put(v)
}

// call: the parameters lie on top already, and become the unit's first locals (promise I3).
func (t *Task) call(u api.Unit) {
	if len(t.hand.units) == api.MaxFrames || !t.hand.enter(u) {
		t.fall(api.TrapStack)
	}
}

func (t *Task) ret() {
	v := t.hand.take()
	t.hand.leave()
	t.put(v)
}

// start: those that are at their end count too, the task's own thread doesn't.
// It is heard ahead of the trap that there may be no room for what was started.
func (t *Task) start(unit int) {
	u := t.units[unit]
	params := t.hand.takeList(u.Params)
	if len(t.threads)-1 == api.MaxCos {
		t.fall(api.TrapMany)
		return
	}
	t.threads = append(t.threads, newThread(u, params))
	t.hear(api.Event{Kind: api.EvStart, V: int64(unit)})
	t.put(int64(len(t.threads) - 1))
}

func (t *Task) resume() {
	passed := t.hand.take()
	h := t.threads[t.hand.take()]
	switch h.stands {
	case ended:
		t.fall(api.TrapDone)
		return
	case going:
		t.fall(api.TrapBusy)
		return
	}
	begun := h.stands == held
	h.stands, h.resumer = going, t.hand
	t.hand = h
	if begun {
		t.put(passed)
	}
}

// end: a generator's end is nought to whoever has resumed it.
func (t *Task) end() {
	if t.hand == t.threads[0] {
		t.over = api.Done
		t.hear(api.Event{Kind: api.EvDone})
		return
	}
	t.giveBack(ended, 0)
}

// giveBack lets the thread at hand stand like that, and its resumer go on with a word.
func (t *Task) giveBack(stands int, v int64) {
	t.hand.stands = stands
	t.hand = t.hand.resumer
	t.put(v)
}
