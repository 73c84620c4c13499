package gen

import "yieldshape/api"

// body lays the code of a unit, and its locals as they are let.
type body struct {
	program
	api.Unit
	// By name. Blocks that end leave theirs here: a name that stands for something is never let again, so what was let last is what it stands for.
	locals map[string]int
}

func (b *body) whole(d api.Def) {
	for n := range b.Params {
		b.locals[d.Params[n].Name] = n
	}
	b.block(d.Body)
	b.end()
}

// end: a body may come to its end; a function returns nought then.
func (b *body) end() {
	if b.Kind != api.DFn {
		b.lay(api.OpEnd, 0)
		return
	}
	if b.Result == truth {
		b.lay(api.OpTruth, 0)
	} else {
		b.lay(api.OpPush, 0)
	}
	b.lay(api.OpRet, 0)
}

// lay lays an instruction, and answers its number.
func (b *body) lay(op, a int) int {
	b.Code = append(b.Code, api.Instr{Op: op, A: a})
	return len(b.Code) - 1
}

// aim lets a jump that lies already go to what is laid next.
func (b *body) aim(jump int) { b.Code[jump].A = len(b.Code) }

func (b *body) block(l []api.Stat) {
	for _, s := range l {
		b.stat(s)
	}
}

// stat lays the code of a statement (promise H2).
func (b *body) stat(s api.Stat) {
	switch s.Kind {
	case api.SLet:
		b.let(s.Name, b.expr(s.X))
		b.lay(api.OpStore, b.locals[s.Name])
	case api.SSet:
		b.with(s.X, api.OpStore, b.locals[s.Name])
	case api.SIf:
		b.choice(s)
	case api.SWhile:
		b.loop(s)
	case api.SReturn:
		b.with(s.X, api.OpRet, 0)
	case api.SStop:
		b.lay(api.OpEnd, 0)
	case api.SSend:
		b.with(s.X, api.OpSend, b.numbers[s.Name])
	case api.SOut:
		b.with(s.X, api.OpOut, 0)
	case api.SDo:
		b.with(s.X, api.OpDrop, 0)
	}
}

// with lays an expression, and the instruction that takes it; it answers that one's number.
func (b *body) with(x api.Expr, op, a int) int {
	b.expr(x)
	return b.lay(op, a)
}

// let makes a local: each let has one of its own, whatever was let by that name ahead of it.
func (b *body) let(name string, t int) {
	b.locals[name] = len(b.Locals)
	b.Locals = append(b.Locals, t)
}

func (b *body) choice(s api.Stat) {
	other := b.with(s.X, api.OpElse, 0)
	b.block(s.Body)
	behind := b.lay(api.OpJump, 0)
	b.aim(other)
	b.block(s.Else)
	b.aim(behind)
}

func (b *body) loop(s api.Stat) {
	begin := len(b.Code)
	behind := b.with(s.X, api.OpElse, 0)
	b.block(s.Body)
	b.lay(api.OpJump, begin)
	b.aim(behind)
}
