package syn

import (
	"strconv"
	"strings"

	"yieldshape/api"
)

// Print answers the text of a program (promise B5).
func Print(l []api.Def) (string, api.Fault) {
	if f := Wrong(l); f.Err != api.OK {
		return "", f
	}
	p := printer{pairs: pairsByKind()}
	for _, d := range l {
		p.def(d)
	}
	text := p.text()
	if len(text) > api.MaxSource {
		return "", api.Fault{Err: api.ErrMuch}
	}
	return text, api.Fault{}
}

// words of a text, one behind the other.
type words struct{ list []string }

func (w *words) put(list ...string) { w.list = append(w.list, list...) }

func (w *words) text() string { return strings.Join(w.list, " ") }

// printer writes a program with which nothing is wrong.
type printer struct {
	words
	pairs map[int]pair
}

func (p *printer) def(d api.Def) {
	switch d.Kind {
	case api.DBox:
		p.put("box", d.Name)
		p.valueType(d.Type)
		p.put(strconv.Itoa(d.Cap), ";")
		return
	case api.DFn:
		p.put("fn", d.Name)
		p.params(d.Params)
		p.valueType(d.Type)
	case api.DGen:
		p.put("gen", d.Name)
		p.params(d.Params)
		p.put("takes")
		p.valueType(d.Takes)
		p.put("yields")
		p.valueType(d.Type)
	case api.DTask:
		p.put("task", d.Name)
	}
	p.body(d.Body)
}

func (p *printer) params(l []api.Param) {
	p.put("(")
	for i, param := range l {
		p.comma(i)
		p.put(param.Name)
		p.valueType(param.Type)
	}
	p.put(")")
}

// comma puts one ahead of all things of a list but the first.
func (p *printer) comma(i int) {
	if i > 0 {
		p.put(",")
	}
}

func (p *printer) valueType(t api.Type) {
	switch t.Kind {
	case api.TyNum:
		p.put("num")
	case api.TyBool:
		p.put("bool")
	case api.TyGen:
		p.put(t.Gen)
	}
}

func (p *printer) body(l []api.Stat) {
	p.put("{")
	for _, s := range l {
		p.stat(s)
	}
	p.put("}")
}

func (p *printer) stat(s api.Stat) {
	switch s.Kind {
	case api.SLet:
		p.ending(s.X, "let", s.Name, "=")
	case api.SSet:
		p.ending(s.X, s.Name, "=")
	case api.SIf:
		p.choice(s)
	case api.SWhile:
		p.put("while")
		p.expr(s.X)
		p.body(s.Body)
	case api.SReturn:
		p.ending(s.X, "return")
	case api.SStop:
		p.put("stop", ";")
	case api.SSend:
		p.ending(s.X, "send", s.Name)
	case api.SOut:
		p.ending(s.X, "out")
	case api.SDo:
		p.ending(s.X, "do")
	}
}

// ending writes a statement that ends with an expression, and what stands ahead of that.
func (p *printer) ending(x api.Expr, ahead ...string) {
	p.put(ahead...)
	p.expr(x)
	p.put(";")
}

func (p *printer) choice(s api.Stat) {
	p.put("if")
	p.expr(s.X)
	p.body(s.Body)
	if len(s.Else) > 0 {
		p.put("else")
		p.body(s.Else)
	}
}

func (p *printer) expr(x api.Expr) {
	if sign := p.pairs[x.Kind]; sign.level > 0 {
		p.pair(sign, x.Kids)
		return
	}
	switch x.Kind {
	case api.ENum:
		p.put(strconv.FormatInt(x.N, 10))
	case api.EBool:
		p.put(truth(x.N))
	case api.EVar:
		p.put(x.Name)
	case api.ENeg:
		p.put("-")
		p.bracketed(x.Kids[0], levelAhead)
	case api.ENot:
		p.put("not")
		p.bracketed(x.Kids[0], levelAhead)
	case api.ECall:
		p.calling(x.Kids, x.Name)
	case api.ERecv:
		p.put("recv", "(", x.Name, ")")
	case api.EYield:
		p.calling(x.Kids, "yield")
	case api.EStart:
		p.calling(x.Kids, "start", x.Name)
	case api.EResume:
		p.calling(x.Kids, "resume")
	case api.EAlive:
		p.calling(x.Kids, "alive")
	}
}

func truth(n int64) string {
	if n == 1 {
		return "true"
	}
	return "false"
}

// pair writes two kids with a sign between. The right one of those that are read from the left must bind more strongly; so must the left one where the sign stands once.
func (p *printer) pair(sign pair, kids []api.Expr) {
	left := sign.level
	if sign.level == levelCompare {
		left++
	}
	p.bracketed(kids[0], left)
	p.put(sign.text)
	p.bracketed(kids[1], sign.level+1)
}

// bracketed writes x, in brackets if it binds more weakly than level.
func (p *printer) bracketed(x api.Expr, level int) {
	if p.levelOf(x.Kind) >= level {
		p.expr(x)
		return
	}
	p.put("(")
	p.expr(x)
	p.put(")")
}

// levelOf: what has no sign between binds more strongly than all that has one.
func (p *printer) levelOf(kind int) int {
	if sign := p.pairs[kind]; sign.level > 0 {
		return sign.level
	}
	return levelAhead
}

func (p *printer) calling(kids []api.Expr, ahead ...string) {
	p.put(ahead...)
	p.put("(")
	for i, kid := range kids {
		p.comma(i)
		p.expr(kid)
	}
	p.put(")")
}
