package verify

import "yieldshape/api"

// reckon takes from the stack what the instruction needs, and puts what comes (promise G4).
func (f *flow) reckon(c api.Instr) {
	switch c.Op {
	case api.OpPush:
		f.put(number)
	case api.OpTruth:
		f.put(truth)
	case api.OpLoad:
		f.must(f.has(c.A), api.ErrState)
		f.put(f.Locals[c.A])
	case api.OpStore:
		f.take(f.Locals[c.A])
		f.fill(c.A)
	case api.OpDrop:
		f.takeOne()
	case api.OpNeg:
		f.turn(number, number)
	case api.OpNot:
		f.turn(truth, truth)
	case api.OpAdd, api.OpSub, api.OpMul, api.OpDiv, api.OpMod:
		f.turn(number, number, number)
	case api.OpLt, api.OpLe, api.OpGt, api.OpGe:
		f.turn(truth, number, number)
	case api.OpAnd, api.OpOr:
		f.turn(truth, truth, truth)
	case api.OpEq, api.OpNe:
		f.turn(truth, f.takePlain())
	case api.OpOut:
		f.takePlain()
	case api.OpElse:
		f.take(truth)
	default:
		f.speak(c)
	}
}

// speak reckons with what comes from and goes to units and boxes; OpJump needs nothing.
func (f *flow) speak(c api.Instr) {
	switch c.Op {
	case api.OpCall:
		f.turn(f.Units[c.A].Result, f.params(c.A)...)
	case api.OpStart:
		f.turn(api.Handle+c.A, f.params(c.A)...)
	case api.OpSend:
		f.take(f.Boxes[c.A].Type)
	case api.OpRecv:
		f.put(f.Boxes[c.A].Type)
	case api.OpResume:
		f.resume()
	case api.OpAlive:
		f.takeStarted()
		f.put(truth)
	case api.OpYield:
		f.must(f.Kind == api.DGen, api.ErrFit)
		f.turn(f.Takes, f.Result)
	case api.OpRet:
		f.must(f.Kind == api.DFn, api.ErrFit)
		f.take(f.Result)
		f.must(f.depth == 0, api.ErrStuck)
	case api.OpEnd:
		f.must(f.Kind != api.DFn, api.ErrFit)
		f.must(f.depth == 0, api.ErrStuck)
	}
}

func (f *flow) params(n int) []int {
	u := f.Units[n]
	return u.Locals[:u.Params]
}

// resume takes both ahead of asking of what type what is passed must be: only the generator tells that.
func (f *flow) resume() {
	passed := f.takeOne()
	g := f.takeStarted()
	f.must(passed == g.Takes, api.ErrType)
	f.put(g.Result)
}

// turn takes types, the last one from the top, and puts what becomes of them.
func (f *flow) turn(into int, l ...int) {
	f.take(l...)
	f.put(into)
}

func (f *flow) take(l ...int) {
	for i := len(l) - 1; i >= 0; i-- {
		f.must(f.takeOne() == l[i], api.ErrType)
	}
}

// takeOne takes the type on top, whatever it is.
func (f *flow) takeOne() int {
	f.must(f.depth > 0, api.ErrStuck)
	return f.pop()
}

func (f *flow) takePlain() int {
	t := f.takeOne()
	f.must(plain(t), api.ErrType)
	return t
}

// takeStarted takes a Handle, and answers its generator: no other Handles come on a stack than those of generators.
func (f *flow) takeStarted() api.Unit {
	t := f.takeOne()
	f.must(t >= api.Handle, api.ErrType)
	return f.Units[t-api.Handle]
}

func (f *flow) put(t int) {
	f.push(t)
	f.must(f.depth <= api.MaxStack, api.ErrMuch)
}
