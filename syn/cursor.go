package syn

import (
	"yieldshape/api"
	"yieldshape/lex"
	"yieldshape/throw"
)

// cursor stands ahead of one of the tokens of a text, or behind them all.
type cursor struct {
	tokens []api.Token
	at     int
	end    int // how many bytes the text has
}

func (c *cursor) atEnd() bool { return c.at == len(c.tokens) }

// peek answers the token that comes next; behind the last one it answers none, which begins where the text ends.
func (c *cursor) peek() api.Token {
	if c.atEnd() {
		return api.Token{At: c.end}
	}
	return c.tokens[c.at]
}

func (c *cursor) skip() { c.at++ }

// take goes past the next token if it is text, and tells whether it was.
func (c *cursor) take(text string) bool {
	if c.atEnd() || c.peek().Text != text {
		return false
	}
	c.skip()
	return true
}

// want goes past text: nothing else may stand there.
func (c *cursor) want(text string) {
	if !c.take(text) {
		c.fail(api.ErrForm)
	}
}

// name goes past a name.
func (c *cursor) name() string {
	t := c.peek()
	if t.Kind != api.TWord {
		c.fail(api.ErrForm)
	}
	if !lex.Named(t.Text) {
		c.fail(api.ErrName)
	}
	c.skip()
	return t.Text
}

// fail throws a fault at what comes next.
func (c *cursor) fail(err api.Errno) {
	throw.Fault(err, c.peek().At)
}
