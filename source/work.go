package source

import "yieldshape/api"

// work is a body at work, of a task, a function or a generator.
type work struct {
	*task
	*thread // of a generator
	// What names stand for. Blocks that end leave theirs here: no name is asked that stands for nothing.
	names map[string]int64
	end   move // what comes after the body
	ret   then // what comes after a function, told what it returns
}

func named(params []api.Param, words []int64) map[string]int64 {
	names := map[string]int64{}
	for i, v := range words {
		names[params[i].Name] = v
	}
	return names
}

// call: a function that comes to its end returns nought.
func (t *task) call(d api.Def, words []int64, after then) move {
	// As a move of its own: many that return one after the other would call each other.
	ret := func(v int64) move { return func() move { return after(v) } }
	b := &work{task: t, names: named(d.Params, words), end: ret(0), ret: ret}
	return b.block(d.Body, b.end)
}

func (b *work) block(l []api.Stat, after move) move {
	if len(l) == 0 {
		return after
	}
	return b.stat(l[0], func() move { return b.block(l[1:], after) })
}

// stat comes to a statement (promise K2).
func (b *work) stat(s api.Stat, after move) move {
	return func() move {
		b.come()
		switch s.Kind {
		case api.SIf:
			return b.choice(s, after)
		case api.SWhile:
			return b.loop(s, after)
		case api.SReturn:
			return b.expr(s.X, b.ret)
		case api.SStop:
			return b.end
		}
		return b.expr(s.X, func(v int64) move { return b.take(s, v, after) })
	}
}

// take does what a statement does with the word of its expression.
func (b *work) take(s api.Stat, v int64, after move) move {
	switch s.Kind {
	case api.SLet, api.SSet:
		b.names[s.Name] = v
	case api.SSend:
		return b.send(b.numbers[s.Name], v, after)
	case api.SOut:
		b.Out = append(b.Out, v)
	}
	return after // SDo is left: the word is dropped
}

func (b *work) choice(s api.Stat, after move) move {
	return b.expr(s.X, func(v int64) move {
		if v == 0 {
			return b.block(s.Else, after)
		}
		return b.block(s.Body, after)
	})
}

// loop comes to the condition again and again, not to the statement.
func (b *work) loop(s api.Stat, after move) move {
	return b.expr(s.X, func(v int64) move {
		if v == 0 {
			return after
		}
		return b.block(s.Body, func() move { return b.loop(s, after) })
	})
}
