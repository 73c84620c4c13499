package source_test

import (
	"iter"
	"slices"

	"yieldshape/api"
)

// oracle is a second reckoning of what programs do: an expression is a call of the language that answers its word; tasks and generators are coroutines of the library, which tell at which box they stand ahead of speaking with it; what is in a box is what was sent to it less what was taken.
type oracle struct {
	defs  map[string]api.Def
	boxes []api.Def
	tasks []*actor
	sent  map[string][]int64
	took  map[string]int
	nodes int
}

// actor is a task.
type actor struct {
	*oracle
	own   *co
	cos   []*co
	at    *stand // the box at which it stands, if it does
	ended bool
	trap  int
	outs  []int64
}

// stand is a box with which somebody would speak.
type stand struct {
	box   string
	sends bool
}

// sign is what a coroutine tells: where it stands, or else the word that it yields.
type sign struct {
	at   *stand
	word int64
}

// co is a coroutine.
type co struct {
	next         func() (sign, bool)
	stop         func()
	going, ended bool
	passed       int64
}

// What is thrown: by a trap; where a coroutine is not asked any more; where there are too many nodes.
type (
	fallen  int
	halted  struct{}
	tooMany struct{}
)

func newOracle(l []api.Def) *oracle {
	o := &oracle{defs: map[string]api.Def{}, sent: map[string][]int64{}, took: map[string]int{}}
	for _, d := range l {
		o.defs[d.Name] = d
		if d.Kind == api.DBox {
			o.boxes = append(o.boxes, d)
		}
	}
	for _, d := range l {
		if d.Kind == api.DTask {
			a := &actor{oracle: o}
			a.own = a.thread(d, nil)
			o.tasks = append(o.tasks, a)
		}
	}
	return o
}

// halt lets all coroutines go.
func (o *oracle) halt() {
	for _, a := range o.tasks {
		for _, c := range append(a.cos, a.own) {
			func() {
				defer func() { recover() }()
				c.stop()
			}()
		}
	}
}

func (o *oracle) inside(box string) []int64 { return o.sent[box][o.took[box]:] }

// may tells whether a task may go on.
func (a *actor) may() bool {
	switch {
	case a.ended || a.trap > 0:
		return false
	case a.at == nil:
		return true
	case a.at.sends:
		return len(a.inside(a.at.box)) < a.defs[a.at.box].Cap
	}
	return len(a.inside(a.at.box)) > 0
}

// goOn lets a task go on up to the next box.
func (a *actor) goOn() {
	defer func() {
		switch by := recover().(type) {
		case nil:
		case fallen:
			a.trap = int(by)
		default:
			panic(by)
		}
	}()
	s, more := a.own.next()
	a.at, a.ended = s.at, !more
}

// settle lets the last one go on that may, from one box to the next, until none may: false, if there are too many nodes.
func (o *oracle) settle() (rests bool) {
	defer func() {
		switch by := recover().(type) {
		case nil, tooMany:
		default:
			panic(by)
		}
	}()
	for {
		n := len(o.tasks) - 1
		for n >= 0 && !o.tasks[n].may() {
			n--
		}
		if n < 0 {
			return true
		}
		o.tasks[n].goOn()
	}
}

func (a *actor) end() api.End {
	e := api.End{Trap: a.trap, Out: a.outs}
	switch {
	case a.trap > 0:
		e.State = api.Trapped
	case a.ended:
		e.State = api.Done
	default:
		e.State = api.Waiting
		if a.at.sends {
			e.State = api.Sending
		}
		e.Box = slices.IndexFunc(a.boxes, func(d api.Def) bool { return d.Name == a.at.box })
	}
	return e
}

func (o *oracle) world() api.World {
	w := api.World{Steps: o.nodes}
	for _, a := range o.tasks {
		w.Tasks = append(w.Tasks, a.end())
	}
	for _, d := range o.boxes {
		w.Boxes = append(w.Boxes, slices.Clone(o.inside(d.Name)))
	}
	return w
}

// thread answers a coroutine of a body, not begun.
func (a *actor) thread(d api.Def, params []int64) *co {
	c := &co{}
	c.next, c.stop = iter.Pull(func(yield func(sign) bool) {
		say := func(s sign) {
			if !yield(s) {
				panic(halted{})
			}
		}
		a.whole(c, d, params, say)
	})
	return c
}

// whole goes through a whole body, and answers what it returns.
func (a *actor) whole(c *co, d api.Def, params []int64, say func(sign)) int64 {
	f := &frame{actor: a, co: c, say: say}
	for i, v := range params {
		f.let(d.Params[i].Name, v)
	}
	_, v := f.block(d.Body)
	return v
}

// frame is a body at work; what its names stand for is a row, the youngest one last.
type frame struct {
	*actor
	*co
	say   func(sign)
	names []string
	words []int64
}

func (f *frame) let(name string, v int64) {
	f.names, f.words = append(f.names, name), append(f.words, v)
}

// place is where a name's word is; there is one, in programs that mean something.
func (f *frame) place(name string) *int64 {
	return &f.words[slices.Index(f.names, name)]
}

func (f *frame) come() {
	f.nodes++
	if f.nodes > 20000 {
		panic(tooMany{})
	}
}

// block tells whether the body was left, and with which word.
func (f *frame) block(l []api.Stat) (left bool, v int64) {
	before := len(f.names)
	for _, s := range l {
		f.come()
		if left, v = f.stat(s); left {
			return left, v
		}
	}
	f.names, f.words = f.names[:before], f.words[:before]
	return false, 0
}

func (f *frame) stat(s api.Stat) (left bool, v int64) {
	switch s.Kind {
	case api.SLet:
		f.let(s.Name, f.expr(s.X))
	case api.SSet:
		v := f.expr(s.X)
		*f.place(s.Name) = v
	case api.SIf:
		if f.expr(s.X) == 1 {
			return f.block(s.Body)
		}
		return f.block(s.Else)
	case api.SWhile:
		for f.expr(s.X) == 1 {
			if left, v := f.block(s.Body); left {
				return left, v
			}
		}
	case api.SReturn:
		return true, f.expr(s.X)
	case api.SStop:
		return true, 0
	case api.SSend:
		v := f.expr(s.X)
		f.say(sign{at: &stand{s.Name, true}})
		f.sent[s.Name] = append(f.sent[s.Name], v)
	case api.SOut:
		v := f.expr(s.X)
		f.outs = append(f.outs, v)
	case api.SDo:
		f.expr(s.X)
	}
	return false, 0
}

func (f *frame) expr(x api.Expr) int64 {
	f.come()
	var kids []int64
	for _, k := range x.Kids {
		kids = append(kids, f.expr(k))
	}
	switch x.Kind {
	case api.ENum, api.EBool:
		return x.N
	case api.EVar:
		return *f.place(x.Name)
	case api.ENeg:
		return ofTwo("-", 0, kids[0])
	case api.ENot:
		return map[int64]int64{0: 1}[kids[0]]
	case api.ECall, api.ERecv, api.EYield, api.EStart, api.EResume, api.EAlive:
		return f.speak(x, kids)
	case api.EAnd:
		return min(kids[0], kids[1])
	case api.EOr:
		return max(kids[0], kids[1])
	}
	sign := map[int]string{api.EAdd: "+", api.ESub: "-", api.EMul: "*", api.EDiv: "/", api.EMod: "%",
		api.EEq: "==", api.ENe: "!=", api.ELt: "<", api.ELe: "<=", api.EGt: ">", api.EGe: ">="}[x.Kind]
	trapIf(kids[1] == 0 && (sign == "/" || sign == "%"), api.TrapZero)
	return ofTwo(sign, kids[0], kids[1])
}

func trapIf(is bool, by fallen) {
	if is {
		panic(by)
	}
}

// firstCo is what was started first, as a word: not a number by which a list is likely to be asked.
const firstCo = 5000

func (f *frame) speak(x api.Expr, kids []int64) int64 {
	switch x.Kind {
	case api.ECall:
		return f.whole(f.co, f.defs[x.Name], kids, f.say)
	case api.ERecv:
		f.say(sign{at: &stand{x.Name, false}})
		v := f.inside(x.Name)[0]
		f.took[x.Name]++
		return v
	case api.EYield:
		f.say(sign{word: kids[0]})
		return f.passed
	case api.EStart:
		trapIf(len(f.cos) == 30, api.TrapMany)
		f.cos = append(f.cos, f.thread(f.defs[x.Name], kids))
		return firstCo + int64(len(f.cos)-1)
	case api.EResume:
		return f.resume(f.cos[kids[0]-firstCo], kids[1])
	}
	if f.cos[kids[0]-firstCo].ended { // EAlive is left
		return 0
	}
	return 1
}

// resume passes on at which boxes the coroutine stands, until it gives a word or is at its end.
func (f *frame) resume(c *co, passed int64) int64 {
	trapIf(c.ended, api.TrapDone)
	trapIf(c.going, api.TrapBusy)
	c.going, c.passed = true, passed
	for {
		s, more := c.next()
		if s.at == nil {
			c.going, c.ended = false, !more
			return s.word
		}
		f.say(s)
	}
}
