package syn

import (
	"yieldshape/api"
	"yieldshape/lex"
	"yieldshape/throw"
)

// Read answers the program that text is (promises B1, B2), or the first error that is met in it (promise B3).
func Read(text string) (out []api.Def, f api.Fault) {
	tokens, f := lex.Tokens(text)
	if f.Err != api.OK {
		return nil, f
	}
	r := reader{cursor: cursor{tokens: tokens, end: len(text)}, pairs: pairsByText()}
	f = throw.Caught(func() { out = r.program() })
	if f.Err != api.OK {
		return nil, f
	}
	if w := Wrong(out); w.Err != api.OK {
		return nil, api.Fault{Err: w.Err}
	}
	return out, api.Fault{}
}

// reader turns tokens into a program: each of its methods reads one thing, or throws the fault that it meets.
type reader struct {
	cursor
	pairs map[string]pair
	open  int
}

func (r *reader) program() []api.Def {
	var out []api.Def
	for !r.atEnd() {
		r.limit(len(out), api.MaxDefs, beginsDef)
		out = append(out, r.def())
	}
	return out
}

func (r *reader) def() api.Def {
	switch r.peek().Text {
	case "box":
		return r.box()
	case "fn":
		return r.function()
	case "gen":
		return r.generator()
	}
	r.want("task")
	d := api.Def{Kind: api.DTask, Name: r.name()}
	d.Body = r.body()
	return d
}

func (r *reader) box() api.Def {
	r.want("box")
	d := api.Def{Kind: api.DBox, Name: r.name()}
	d.Type = r.valueType()
	d.Cap = r.places()
	r.want(";")
	return d
}

func (r *reader) function() api.Def {
	r.want("fn")
	d := api.Def{Kind: api.DFn, Name: r.name()}
	d.Params = r.params()
	d.Type = r.valueType()
	d.Body = r.body()
	return d
}

func (r *reader) generator() api.Def {
	r.want("gen")
	d := api.Def{Kind: api.DGen, Name: r.name()}
	d.Params = r.params()
	r.want("takes")
	d.Takes = r.valueType()
	r.want("yields")
	d.Type = r.valueType()
	d.Body = r.body()
	return d
}

// places reads how many go into a box.
func (r *reader) places() int {
	t := r.peek()
	if t.Kind != api.TNum {
		r.fail(api.ErrForm)
	}
	if t.Num < 1 || t.Num > api.MaxCap {
		r.fail(api.ErrRange)
	}
	r.skip()
	return int(t.Num)
}

func (r *reader) params() []api.Param {
	var out []api.Param
	r.list(beginsParam, func() {
		p := api.Param{Name: r.name()}
		p.Type = r.valueType()
		out = append(out, p)
	})
	return out
}

func (r *reader) valueType() api.Type {
	switch {
	case r.take("num"):
		return api.Type{Kind: api.TyNum}
	case r.take("bool"):
		return api.Type{Kind: api.TyBool}
	}
	return api.Type{Kind: api.TyGen, Gen: r.name()}
}

func (r *reader) body() []api.Stat {
	r.want("{")
	r.enter()
	defer r.leave()
	var out []api.Stat
	for !r.take("}") {
		r.limit(len(out), api.MaxBody, beginsStat)
		out = append(out, r.stat())
	}
	return out
}

func (r *reader) stat() api.Stat {
	switch {
	case r.take("let"):
		return r.setting(api.SLet)
	case r.take("if"):
		return r.choice()
	case r.take("while"):
		s := api.Stat{Kind: api.SWhile, X: r.expr()}
		s.Body = r.body()
		return s
	case r.take("stop"):
		r.want(";")
		return api.Stat{Kind: api.SStop}
	case r.take("send"):
		s := api.Stat{Kind: api.SSend, Name: r.name()}
		s.X = r.expr()
		r.want(";")
		return s
	case r.take("return"):
		return r.saying(api.SReturn)
	case r.take("out"):
		return r.saying(api.SOut)
	case r.take("do"):
		return r.saying(api.SDo)
	}
	return r.setting(api.SSet)
}

func (r *reader) setting(kind int) api.Stat {
	s := api.Stat{Kind: kind, Name: r.name()}
	r.want("=")
	s.X = r.expr()
	r.want(";")
	return s
}

func (r *reader) choice() api.Stat {
	s := api.Stat{Kind: api.SIf, X: r.expr()}
	s.Body = r.body()
	if r.take("else") {
		s.Else = r.body()
	}
	return s
}

// saying reads what a statement has that is a word and an expression alone.
func (r *reader) saying(kind int) api.Stat {
	s := api.Stat{Kind: kind, X: r.expr()}
	r.want(";")
	return s
}

// expr reads an expression of those that count as open: a statement's, one in brackets, a kid.
func (r *reader) expr() api.Expr {
	r.enter()
	defer r.leave()
	return r.from(levelOr)
}

// from reads an expression whose signs bind at least as strongly as level says.
func (r *reader) from(level int) api.Expr {
	if level == levelAhead {
		return r.ahead()
	}
	x := r.from(level + 1)
	for {
		p := r.pairs[r.peek().Text]
		if p.level != level {
			return x
		}
		r.skip()
		x = api.Expr{Kind: p.kind, Kids: []api.Expr{x, r.from(level + 1)}}
		if level == levelCompare {
			return x
		}
	}
}

func (r *reader) ahead() api.Expr {
	switch {
	case r.take("-"):
		return r.turned(api.ENeg)
	case r.take("not"):
		return r.turned(api.ENot)
	}
	return r.piece()
}

func (r *reader) turned(kind int) api.Expr {
	r.enter()
	defer r.leave()
	return api.Expr{Kind: kind, Kids: []api.Expr{r.ahead()}}
}

func (r *reader) piece() api.Expr {
	if t := r.peek(); t.Kind == api.TNum {
		r.skip()
		return api.Expr{Kind: api.ENum, N: t.Num}
	}
	switch {
	case r.take("("):
		x := r.expr()
		r.want(")")
		return x
	case r.take("true"):
		return api.Expr{Kind: api.EBool, N: 1}
	case r.take("false"):
		return api.Expr{Kind: api.EBool}
	case r.take("start"):
		x := api.Expr{Kind: api.EStart, Name: r.name()}
		x.Kids = r.kids()
		return x
	case r.take("recv"):
		return r.receiving()
	case r.take("yield"):
		return api.Expr{Kind: api.EYield, Kids: r.exactly(1)}
	case r.take("alive"):
		return api.Expr{Kind: api.EAlive, Kids: r.exactly(1)}
	case r.take("resume"):
		return api.Expr{Kind: api.EResume, Kids: r.exactly(2)}
	}
	return r.named()
}

func (r *reader) receiving() api.Expr {
	r.want("(")
	x := api.Expr{Kind: api.ERecv, Name: r.name()}
	r.want(")")
	return x
}

// named reads a variable or a call: which of them it is shows behind the name.
func (r *reader) named() api.Expr {
	x := api.Expr{Kind: api.EVar, Name: r.name()}
	if r.peek().Text == "(" {
		x.Kind = api.ECall
		x.Kids = r.kids()
	}
	return x
}

func (r *reader) kids() []api.Expr {
	var out []api.Expr
	r.list(beginsExpr, func() { out = append(out, r.expr()) })
	return out
}

// exactly reads n kids, and lets neither fewer nor more of them through.
func (r *reader) exactly(n int) []api.Expr {
	r.want("(")
	out := []api.Expr{r.expr()}
	for len(out) < n {
		r.want(",")
		out = append(out, r.expr())
	}
	r.want(")")
	return out
}

// list reads brackets with up to MaxArgs things between them, each by one, whose first token begins knows.
func (r *reader) list(begins func(api.Token) bool, one func()) {
	r.want("(")
	if r.take(")") {
		return
	}
	for n := 0; ; n++ {
		r.limit(n, api.MaxArgs, begins)
		one()
		if r.take(")") {
			return
		}
		r.want(",")
	}
}

// limit fails if most things are there already and one more begins. What can't begin one is left to whoever reads it:
// of two errors at one byte, ErrForm and ErrName come ahead of ErrMany.
func (r *reader) limit(n, most int, begins func(api.Token) bool) {
	if n == most && begins(r.peek()) {
		r.fail(api.ErrMany)
	}
}

// enter opens one level more; whoever enters leaves by a deferred call.
func (r *reader) enter() {
	r.open++
	if r.open > api.MaxDeep {
		r.fail(api.ErrMuch)
	}
}

func (r *reader) leave() { r.open-- }

func beginsDef(t api.Token) bool { return isOneOf(t.Text, "box", "fn", "gen", "task") }

func beginsParam(t api.Token) bool { return lex.Named(t.Text) }

func beginsStat(t api.Token) bool {
	return lex.Named(t.Text) || isOneOf(t.Text, "let", "if", "while", "return", "stop", "send", "out", "do")
}

func beginsExpr(t api.Token) bool {
	return t.Kind == api.TNum || lex.Named(t.Text) ||
		isOneOf(t.Text, "-", "not", "(", "true", "false", "start", "recv", "yield", "alive", "resume")
}

func isOneOf(text string, list ...string) bool {
	for _, s := range list {
		if s == text {
			return true
		}
	}
	return false
}
