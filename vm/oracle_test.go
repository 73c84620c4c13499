package vm_test

import (
	"iter"
	"slices"

	"yieldshape/api"
)

// oracle is a second reckoning of what a task does: a unit at work is a call of the language, with words of its own; a generator's thread is a coroutine of the library; where all comes to rest is thrown.
type oracle struct {
	api.Module
	api.Report
	feeds [][]int64
	most  int
	cos   []*co
}

// co is a thread.
type co struct {
	next                func() (int64, bool)
	stop                func()
	going, ended, begun bool
	passed              int64
	units, below        int // at work; words of all but the innermost one
}

// rest is where a task comes to rest.
type rest struct{ state, box, trap int }

// firstCo is what was started first, as a word: not a number by which a list is likely to be asked.
const firstCo = 5000

func oracleSolo(m api.Module, unit int, feeds [][]int64, most int) api.Report {
	o := &oracle{Module: m, feeds: feeds, most: most}
	o.Sent, o.Took = make([][]int64, len(feeds)), make([]int, len(feeds))
	func() {
		defer func() {
			r := recover().(rest)
			o.State, o.Box, o.Trap = r.state, r.box, r.trap
		}()
		o.unit(&co{going: true}, unit, nil, nil)
		panic(rest{state: api.Done})
	}()
	for _, c := range o.cos {
		func() {
			defer func() { recover() }()
			c.stop()
		}()
	}
	return o.Report
}

func (o *oracle) trapIf(is bool, trap int) {
	if is {
		panic(rest{state: api.Trapped, trap: trap})
	}
}

// frame is a unit at work.
type frame struct {
	*oracle
	*co
	u      api.Unit
	locals []int64
	stack  []int64
	yield  func(int64) bool
}

func (f *frame) pop() int64 { return f.pops(1)[0] }

func (f *frame) pops(n int) []int64 {
	at := len(f.stack) - n
	l := slices.Clone(f.stack[at:])
	f.stack = f.stack[:at]
	return l
}

func (f *frame) push(v int64) {
	f.stack = append(f.stack, v)
	f.trapIf(f.below+len(f.locals)+len(f.stack) > 400, api.TrapStack)
}

// unit does all of a unit, and answers what it returns.
func (o *oracle) unit(c *co, n int, params []int64, yield func(int64) bool) int64 {
	u := o.Units[n]
	o.trapIf(c.units == 40 || c.below+len(u.Locals) > 400, api.TrapStack)
	c.units++
	defer func() { c.units-- }()
	f := &frame{oracle: o, co: c, u: u, yield: yield, locals: make([]int64, len(u.Locals))}
	copy(f.locals, params)
	for at := 0; ; {
		i := u.Code[at]
		if i.Op == api.OpRecv && o.Took[i.A] == len(o.feeds[i.A]) {
			panic(rest{state: api.Waiting, box: i.A})
		}
		if o.Steps == o.most {
			panic(rest{state: api.Ready})
		}
		o.Steps++
		at++
		switch words[i.Op-1] {
		case "end":
			return 0
		case "ret":
			return f.pop()
		case "jump":
			at = i.A
		case "else":
			if f.pop() == 0 {
				at = i.A
			}
		default:
			f.plain(i)
		}
	}
}

func (f *frame) plain(i api.Instr) {
	switch word := words[i.Op-1]; word {
	case "push":
		f.push(i.N)
	case "truth":
		f.push(int64(i.A))
	case "load":
		f.push(f.locals[i.A])
	case "store":
		f.locals[i.A] = f.pop()
	case "drop":
		f.pop()
	case "neg":
		f.push(0 - f.pop())
	case "not":
		f.push(map[int64]int64{0: 1, 1: 0}[f.pop()])
	case "and":
		f.push(f.pop() * f.pop())
	case "or":
		f.push(max(f.pop(), f.pop()))
	case "send":
		f.Sent[i.A] = append(f.Sent[i.A], f.pop())
	case "recv":
		f.Took[i.A]++
		f.push(f.feeds[i.A][f.Took[i.A]-1])
	case "out":
		f.Out = append(f.Out, f.pop())
	case "call", "start", "resume", "yield", "alive":
		f.speak(word, i.A)
	default:
		l := f.pops(2)
		f.trapIf(l[1] == 0 && (word == "div" || word == "mod"), api.TrapZero)
		f.push(ofTwo(word, l[0], l[1]))
	}
}

func (f *frame) speak(word string, n int) {
	switch word {
	case "call":
		params := f.pops(f.Units[n].Params)
		mine := len(f.locals) + len(f.stack)
		f.below += mine
		v := f.unit(f.co, n, params, nil)
		f.below -= mine
		f.push(v)
	case "start":
		params := f.pops(f.Units[n].Params)
		f.trapIf(len(f.cos) == 30, api.TrapMany)
		c := &co{}
		c.next, c.stop = iter.Pull(func(yield func(int64) bool) { f.unit(c, n, params, yield) })
		f.cos = append(f.cos, c)
		f.push(firstCo - 1 + int64(len(f.cos)))
	case "resume":
		v := f.pop()
		c := f.cos[f.pop()-firstCo]
		f.trapIf(c.ended, api.TrapDone)
		f.trapIf(c.going, api.TrapBusy)
		c.passed, c.going = v, true
		got, more := c.next()
		c.going, c.ended = false, !more
		f.push(got)
	case "yield":
		if !f.yield(f.pop()) {
			panic(rest{})
		}
		f.push(f.passed)
	case "alive":
		f.push(map[bool]int64{true: 0, false: 1}[f.cos[f.pop()-firstCo].ended])
	}
}
