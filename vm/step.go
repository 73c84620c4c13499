package vm

import "yieldshape/api"

// step does the next instruction of a task that is Ready (promise I2).
func (t *task) step() {
	h := t.hand
	c := h.next()
	w := h.inner()
	w.next++ // ahead of what it does: a jump, or a unit that comes to work, says otherwise
	switch c.Op {
	case api.OpPush:
		t.put(c.N)
	case api.OpTruth:
		t.put(int64(c.A))
	case api.OpLoad:
		t.put(h.Word(w.base + c.A))
	case api.OpStore:
		h.Set(w.base+c.A, h.take())
	case api.OpDrop:
		h.take()
	case api.OpNeg:
		t.put(-h.take())
	case api.OpNot:
		t.put(1 - h.take())
	case api.OpJump:
		w.next = c.A
	case api.OpElse:
		if h.take() == 0 {
			w.next = c.A
		}
	case api.OpSend:
		t.boxes[c.A].Put(h.take())
	case api.OpRecv:
		t.put(t.boxes[c.A].Take())
	case api.OpOut:
		t.out = append(t.out, h.take())
	default:
		t.speak(c)
	}
}

// speak does what units and threads have to do with each other; what is left reckons with two words.
func (t *task) speak(c api.Instr) {
	switch c.Op {
	case api.OpCall:
		t.call(t.Units[c.A])
	case api.OpRet:
		t.ret()
	case api.OpStart:
		t.start(t.Units[c.A])
	case api.OpResume:
		t.resume()
	case api.OpYield:
		t.giveBack(held, t.hand.take())
	case api.OpEnd:
		t.end()
	case api.OpAlive:
		h := t.threads[t.hand.take()]
		t.putTruth(h.stands != ended)
	default:
		t.reckon(c.Op)
	}
}

func (t *task) reckon(op int) {
	second := t.hand.take()
	first := t.hand.take()
	if second == 0 && (op == api.OpDiv || op == api.OpMod) {
		t.fall(api.TrapZero)
		return
	}
	t.put(reckoned(op, first, second))
}

// call: the parameters lie on top already, and become the unit's first locals (promise I3).
func (t *task) call(u api.Unit) {
	if len(t.hand.units) == api.MaxFrames || !t.hand.enter(u) {
		t.fall(api.TrapStack)
	}
}

func (t *task) ret() {
	v := t.hand.take()
	t.hand.leave()
	t.put(v)
}

// start: those that are at their end count too, and so does not the task's own thread.
func (t *task) start(u api.Unit) {
	params := t.hand.takeList(u.Params)
	if len(t.threads)-1 == api.MaxCos {
		t.fall(api.TrapMany)
		return
	}
	t.threads = append(t.threads, newThread(u, params))
	t.put(int64(len(t.threads) - 1))
}

func (t *task) resume() {
	passed := t.hand.take()
	h := t.threads[t.hand.take()]
	switch h.stands {
	case ended:
		t.fall(api.TrapDone)
		return
	case going:
		t.fall(api.TrapBusy)
		return
	}
	begun := h.stands == held
	h.stands, h.resumer = going, t.hand
	t.hand = h
	if begun {
		t.put(passed)
	}
}

// end: a generator's end is nought to whoever has resumed it.
func (t *task) end() {
	if t.hand == t.threads[0] {
		t.over = api.Done
		return
	}
	t.giveBack(ended, 0)
}

// giveBack lets the thread at hand stand like that, and its resumer go on with a word.
func (t *task) giveBack(stands int, v int64) {
	t.hand.stands = stands
	t.hand = t.hand.resumer
	t.put(v)
}
