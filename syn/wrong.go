package syn

import (
	"yieldshape/api"
	"yieldshape/lex"
	"yieldshape/throw"
)

// mostNumber is the greatest number of MaxDigits digits.
const mostNumber = 999_999_999_999_999

// Wrong answers what is wrong with a program, and in which definition (promise B4).
func Wrong(l []api.Def) api.Fault {
	return throw.Caught(func() {
		var c checker
		c.atMost(len(l), api.MaxDefs)
		for i, d := range l {
			c.number = i
			c.def(d)
		}
	})
}

// checker goes through a program, and throws the first fault that it comes to.
type checker struct {
	number int // of the definition
	nodes  int // come to so far
}

func (c *checker) fail(err api.Errno) {
	throw.Fault(err, c.number)
}

// node counts a node ahead of anything else that is asked of it: so it ends even if what it is given goes round in itself.
func (c *checker) node(kind, most, deep int) {
	c.nodes++
	if c.nodes > api.MaxNodes || deep > api.MaxShape {
		c.fail(api.ErrMuch)
	}
	c.kind(kind, most)
}

// kind: the kinds of each sort of things are those from 1 to most.
func (c *checker) kind(kind, most int) {
	if kind < 1 || kind > most {
		c.fail(api.ErrKind)
	}
}

func (c *checker) name(s string) {
	if !lex.Named(s) {
		c.fail(api.ErrName)
	}
}

func (c *checker) atMost(n, most int) {
	if n > most {
		c.fail(api.ErrMany)
	}
}

func (c *checker) within(n, least, most int64) {
	if n < least || n > most {
		c.fail(api.ErrRange)
	}
}

func (c *checker) def(d api.Def) {
	const deep = 1
	c.node(d.Kind, api.DTask, deep)
	c.name(d.Name)
	if d.Kind == api.DFn || d.Kind == api.DGen {
		c.params(d.Params)
	}
	if d.Kind == api.DGen {
		c.valueType(d.Takes)
	}
	if d.Kind != api.DTask {
		c.valueType(d.Type)
	}
	if d.Kind == api.DBox {
		c.within(int64(d.Cap), 1, api.MaxCap)
		return
	}
	c.body(d.Body, deep+1)
}

func (c *checker) params(l []api.Param) {
	c.atMost(len(l), api.MaxArgs)
	for _, p := range l {
		c.name(p.Name)
		c.valueType(p.Type)
	}
}

func (c *checker) valueType(t api.Type) {
	c.kind(t.Kind, api.TyGen)
	if t.Kind == api.TyGen {
		c.name(t.Gen)
	}
}

// body: deep is how deep its statements are.
func (c *checker) body(l []api.Stat, deep int) {
	c.atMost(len(l), api.MaxBody)
	for _, s := range l {
		c.stat(s, deep)
	}
}

func (c *checker) stat(s api.Stat, deep int) {
	c.node(s.Kind, api.SDo, deep)
	if s.Kind == api.SLet || s.Kind == api.SSet || s.Kind == api.SSend {
		c.name(s.Name)
	}
	if s.Kind != api.SStop {
		c.expr(s.X, deep+1)
	}
	if s.Kind == api.SIf || s.Kind == api.SWhile {
		c.body(s.Body, deep+1)
	}
	if s.Kind == api.SIf {
		c.body(s.Else, deep+1)
	}
}

func (c *checker) expr(x api.Expr, deep int) {
	c.node(x.Kind, api.EAlive, deep)
	switch x.Kind {
	case api.ENum:
		c.within(x.N, 0, mostNumber)
	case api.EBool:
		c.within(x.N, 0, 1)
	case api.EVar, api.ECall, api.ERecv, api.EStart:
		c.name(x.Name)
	}
	least, most := kidsOf(x.Kind)
	if len(x.Kids) < least {
		c.fail(api.ErrMany)
	}
	c.atMost(len(x.Kids), most)
	for _, kid := range x.Kids {
		c.expr(kid, deep+1)
	}
}

// kidsOf answers how many kids an expression of that kind has, at least and at most.
func kidsOf(kind int) (least, most int) {
	switch kind {
	case api.ENum, api.EBool, api.EVar, api.ERecv:
		return 0, 0
	case api.ENeg, api.ENot, api.EYield, api.EAlive:
		return 1, 1
	case api.ECall, api.EStart:
		return 0, api.MaxArgs
	}
	return 2, 2
}
