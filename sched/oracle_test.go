package sched_test

import (
	"iter"
	"slices"

	"yieldshape/api"
)

// oracle is a second reckoning of what tasks do: a unit at work is a call of the language, with words of its own; a thread is a coroutine of the library, which tells each instruction ahead of doing it; what is in a box is what was sent to it less what was taken.
type oracle struct {
	api.Module
	tasks  []*actor
	sent   [][]int64
	took   []int
	steps  int
	events []api.Event
}

// actor is a task.
type actor struct {
	*oracle
	number     int
	own        *co
	cos        []*co
	ahead      api.Instr // what it does next
	over, trap int
}

// co is a thread.
type co struct {
	next         func() (sign, bool)
	stop         func()
	going, ended bool
	passed       int64
	units, below int // at work; words of all but the innermost one
}

// sign is what a coroutine tells: what it does next, or else, if it gives, the word that it yields.
type sign struct {
	ahead api.Instr
	gives bool
	word  int64
}

// fallen is thrown by a trap, halted where a coroutine is not asked any more.
type (
	fallen int
	halted struct{}
)

// firstCo is what was started first, as a word: not a number by which a list is likely to be asked.
const firstCo = 5000

func newOracle(m api.Module) *oracle {
	o := &oracle{Module: m, sent: make([][]int64, len(m.Boxes)), took: make([]int, len(m.Boxes))}
	for n, u := range m.Units {
		if u.Kind == api.DTask {
			a := &actor{oracle: o, number: len(o.tasks)}
			a.own = a.thread(n, nil)
			a.goOn()
			o.tasks = append(o.tasks, a)
		}
	}
	return o
}

// halt lets all coroutines go.
func (o *oracle) halt() {
	for _, a := range o.tasks {
		for _, c := range append(a.cos, a.own) {
			func() {
				defer func() { recover() }()
				c.stop()
			}()
		}
	}
}

func (a *actor) tell(kind, box int, v int64) {
	a.events = append(a.events, api.Event{Task: a.number, Kind: kind, Box: box, V: v})
}

// goOn does what the task has told, up to what it tells next.
func (a *actor) goOn() {
	defer func() {
		if by, ok := recover().(fallen); ok {
			a.over, a.trap = api.Trapped, int(by)
			a.tell(api.EvTrap, 0, int64(by))
		}
	}()
	s, more := a.own.next()
	a.ahead = s.ahead
	if !more {
		a.over = api.Done
		a.tell(api.EvDone, 0, 0)
	}
}

// inside are the words in a box.
func (o *oracle) inside(box int) []int64 { return o.sent[box][o.took[box]:] }

func (a *actor) end() api.End {
	e := api.End{State: a.over, Trap: a.trap}
	for _, ev := range a.events {
		if ev.Task == a.number && ev.Kind == api.EvOut {
			e.Out = append(e.Out, ev.V)
		}
	}
	e.State, e.Box = a.state()
	return e
}

func (a *actor) state() (int, int) {
	if a.over > 0 {
		return a.over, 0
	}
	switch words[a.ahead.Op-1] {
	case "send":
		if len(a.inside(a.ahead.A)) >= a.Boxes[a.ahead.A].Cap {
			return api.Sending, a.ahead.A
		}
	case "recv":
		if len(a.inside(a.ahead.A)) == 0 {
			return api.Waiting, a.ahead.A
		}
	}
	return api.Ready, 0
}

func (a *actor) ready() bool {
	s, _ := a.state()
	return s == api.Ready
}

func (o *oracle) pick(p api.Pick) (d api.Did) {
	if p.Task < 0 || p.Task > len(o.tasks)-1 {
		return api.Did{Err: api.ErrRange}
	}
	if p.Quantum < 1 || p.Quantum > 10000 {
		return api.Did{Err: api.ErrMany}
	}
	a := o.tasks[p.Task]
	if !a.ready() {
		return api.Did{Err: api.ErrState}
	}
	if o.steps == 20000 {
		return api.Did{Err: api.ErrSteps}
	}
	for a.ready() && d.Steps < p.Quantum && o.steps < 20000 {
		a.goOn()
		d.Steps++
		o.steps++
	}
	return d
}

// settle picks the last one that is Ready, not by turns: where all comes to rest that makes no difference.
func (o *oracle) settle() bool {
	for {
		n := len(o.tasks) - 1
		for n >= 0 && !o.tasks[n].ready() {
			n--
		}
		if n < 0 || o.steps == 20000 {
			return n < 0
		}
		o.pick(api.Pick{Task: n, Quantum: 10000})
	}
}

func (o *oracle) world() api.World {
	w := api.World{Steps: o.steps}
	for _, a := range o.tasks {
		w.Tasks = append(w.Tasks, a.end())
	}
	for n := range o.Boxes {
		w.Boxes = append(w.Boxes, slices.Clone(o.inside(n)))
	}
	return w
}

// frame is a unit at work.
type frame struct {
	*actor
	*co
	locals []int64
	stack  []int64
	say    func(sign)
}

func trapIf(is bool, by fallen) {
	if is {
		panic(by)
	}
}

// thread answers one of that unit, not begun.
func (a *actor) thread(unit int, params []int64) *co {
	c := &co{}
	c.next, c.stop = iter.Pull(func(yield func(sign) bool) {
		a.unit(c, unit, params, func(s sign) {
			if !yield(s) {
				panic(halted{})
			}
		})
	})
	return c
}

// unit does all of a unit, and answers what it returns.
func (a *actor) unit(c *co, n int, params []int64, say func(sign)) int64 {
	u := a.Units[n]
	trapIf(c.units == 40 || c.below+len(u.Locals) > 400, api.TrapStack)
	c.units++
	defer func() { c.units-- }()
	f := &frame{actor: a, co: c, say: say, locals: make([]int64, len(u.Locals))}
	copy(f.locals, params)
	for at := 0; ; {
		i := u.Code[at]
		say(sign{ahead: i})
		at++
		switch words[i.Op-1] {
		case "end":
			return 0
		case "ret":
			return f.pop()
		case "jump":
			at = i.A
		case "else":
			if f.pop() == 0 {
				at = i.A
			}
		default:
			f.plain(i)
		}
	}
}

func (f *frame) pop() int64 { return f.pops(1)[0] }

func (f *frame) pops(n int) []int64 {
	at := len(f.stack) - n
	l := slices.Clone(f.stack[at:])
	f.stack = f.stack[:at]
	return l
}

func (f *frame) push(v int64) {
	f.stack = append(f.stack, v)
	trapIf(f.below+len(f.locals)+len(f.stack) > 400, api.TrapStack)
}

func (f *frame) plain(i api.Instr) {
	switch word := words[i.Op-1]; word {
	case "push":
		f.push(i.N)
	case "truth":
		f.push(int64(i.A))
	case "load":
		f.push(f.locals[i.A])
	case "store":
		f.locals[i.A] = f.pop()
	case "drop":
		f.pop()
	case "neg":
		f.push(0 - f.pop())
	case "not":
		f.push(map[int64]int64{0: 1, 1: 0}[f.pop()])
	case "send":
		v := f.pop()
		f.sent[i.A] = append(f.sent[i.A], v)
		f.tell(api.EvSend, i.A, v)
	case "recv":
		v := f.inside(i.A)[0]
		f.took[i.A]++
		f.tell(api.EvRecv, i.A, v)
		f.push(v)
	case "out":
		f.tell(api.EvOut, 0, f.pop())
	case "call", "start", "resume", "yield", "alive":
		f.speak(word, i.A)
	default:
		l := f.pops(2)
		trapIf(l[1] == 0 && (word == "div" || word == "mod"), api.TrapZero)
		f.push(ofTwo(word, l[0], l[1]))
	}
}

func (f *frame) speak(word string, n int) {
	switch word {
	case "call":
		params := f.pops(f.Units[n].Params)
		mine := len(f.locals) + len(f.stack)
		f.below += mine
		v := f.unit(f.co, n, params, f.say)
		f.below -= mine
		f.push(v)
	case "start":
		params := f.pops(f.Units[n].Params)
		trapIf(len(f.cos) == 30, api.TrapMany)
		f.cos = append(f.cos, f.thread(n, params))
		f.tell(api.EvStart, 0, int64(n))
		f.push(firstCo - 1 + int64(len(f.cos)))
	case "resume":
		v := f.pop()
		c := f.cos[f.pop()-firstCo]
		trapIf(c.ended, api.TrapDone)
		trapIf(c.going, api.TrapBusy)
		c.passed = v
		f.push(f.resume(c))
	case "yield":
		f.say(sign{gives: true, word: f.pop()})
		f.push(f.passed)
	case "alive":
		f.push(map[bool]int64{true: 0, false: 1}[f.cos[f.pop()-firstCo].ended])
	}
}

// resume passes on what the thread tells, until it gives a word or is at its end.
func (f *frame) resume(c *co) int64 {
	c.going = true
	for {
		s, more := c.next()
		if s.gives || !more {
			c.going, c.ended = false, !more
			return s.word
		}
		f.say(s)
	}
}

// ofTwo answers what comes of two words.
func ofTwo(word string, a, b int64) int64 {
	is := map[string]bool{"eq": a == b, "ne": a != b, "lt": a < b, "le": a <= b, "gt": a > b, "ge": a >= b, "and": a*b == 1, "or": a+b > 0}
	switch word {
	case "add":
		return a + b
	case "sub":
		return a - b
	case "mul":
		return a * b
	case "div":
		return a / b
	case "mod":
		return a % b
	}
	if is[word] {
		return 1
	}
	return 0
}
