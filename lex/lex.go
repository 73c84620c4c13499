// Package lex cuts texts into tokens: see doc/01-lex.md.
package lex

import (
	"strings"

	"yieldshape/api"
)

// Tokens answers the tokens of s, or the first error that is met in it (promise A1).
func Tokens(s string) ([]api.Token, api.Fault) {
	if len(s) > api.MaxSource {
		return nil, api.Fault{Err: api.ErrMuch}
	}
	var out []api.Token
	next := cutter(s)
	for {
		t, f := next()
		if f.Err != api.OK {
			return nil, f
		}
		if t.Kind == 0 {
			return out, api.Fault{}
		}
		out = append(out, t)
	}
}

// Named tells whether s is a NAME (promise A2).
func Named(s string) bool {
	if s == "" || len(s) > api.MaxName {
		return false
	}
	return isLetter(s[0]) && run(s, isWordByte) == len(s) && !isKept(s)
}

// cutter answers a function that gives one token more at each call, and a token without a kind once there is none.
// The place in s is the closure's own, so that whoever asks for tokens can't step astray.
func cutter(s string) func() (api.Token, api.Fault) {
	at := 0
	return func() (api.Token, api.Fault) {
		at += gap(s[at:])
		if at == len(s) {
			return api.Token{}, api.Fault{}
		}
		t, err := first(s[at:])
		if err != api.OK {
			return api.Token{}, api.Fault{Err: err, At: at}
		}
		t.At = at
		at += len(t.Text)
		return t, api.Fault{}
	}
}

// gap answers how many bytes ahead of the first token of s make none.
func gap(s string) int {
	inRemark := false
	return run(s, func(c byte) bool {
		if c == '#' {
			inRemark = true
		}
		if c == '\n' {
			inRemark = false
		}
		return inRemark || isBlank(c)
	})
}

// first answers the token with which s, which isn't empty, begins.
func first(s string) (api.Token, api.Errno) {
	switch {
	case isLetter(s[0]):
		return token(api.TWord, s[:run(s, isWordByte)]), api.OK
	case isDigit(s[0]):
		return number(s[:run(s, isDigit)])
	}
	n := signLen(s)
	if n == 0 {
		return api.Token{}, api.ErrForm
	}
	return token(api.TSign, s[:n]), api.OK
}

// number answers the token of digits. Noughts ahead count as digits: the limit is on what is written.
func number(digits string) (api.Token, api.Errno) {
	if len(digits) > api.MaxDigits {
		return api.Token{}, api.ErrRange
	}
	t := token(api.TNum, digits)
	for i := range len(digits) {
		t.Num = t.Num*10 + int64(digits[i]-'0')
	}
	return t, api.OK
}

// token copies text: what is answered must not hold on to the source.
func token(kind int, text string) api.Token {
	return api.Token{Kind: kind, Text: strings.Clone(text)}
}

// signLen answers how long the sign is with which s begins, 0 if none does. Two bytes come ahead of one, else `<=` would be cut apart.
func signLen(s string) int {
	if len(s) > 1 && s[1] == '=' && isOneOf(s[0], "=!<>") {
		return 2
	}
	if isOneOf(s[0], "<>=+-*/%(){},;") {
		return 1
	}
	return 0
}

// run answers how many bytes at the beginning of s fit, up to the first that doesn't.
func run(s string, fits func(byte) bool) int {
	n := 0
	for n < len(s) && fits(s[n]) {
		n++
	}
	return n
}

func isOneOf(c byte, list string) bool { return strings.IndexByte(list, c) >= 0 }

func isBlank(c byte) bool { return c == ' ' || c == '\t' || c == '\n' }

func isLetter(c byte) bool { return 'a' <= c && c <= 'z' || c == '_' }

func isDigit(c byte) bool { return '0' <= c && c <= '9' }

func isWordByte(c byte) bool { return isLetter(c) || isDigit(c) }

// isKept tells whether programs keep the word s for themselves.
func isKept(s string) bool {
	switch s {
	case "box", "fn", "gen", "task", "takes", "yields",
		"let", "if", "else", "while", "return", "stop", "send", "out", "do",
		"recv", "yield", "start", "resume", "alive",
		"num", "bool", "true", "false", "and", "or", "not":
		return true
	}
	return false
}
