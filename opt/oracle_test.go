package opt_test

import (
	"fmt"
	"math/rand"
	"slices"
	"strconv"
	"strings"

	"yieldshape/api"
)

// node is an instruction as a text, and the node that it jumps to, if it does: no numbers that would have to be kept right.
type node struct {
	text string
	to   *node
}

func isJump(text string) bool { return text == "jump" || text == "else" }

// nodesOf is code as nodes; the words of the oracle are those of textOf.
func nodesOf(l []api.Instr) []*node {
	var out []*node
	for range l {
		out = append(out, &node{})
	}
	for n, text := range strings.Split(textOf(l), ", ") {
		word, _, _ := strings.Cut(text, " ")
		out[n].text = text
		if isJump(word) {
			out[n].text, out[n].to = word, out[l[n].A]
		}
	}
	return out
}

func codeOf(l []*node) []api.Instr {
	var out []string
	for _, x := range l {
		if x.to != nil {
			out = append(out, fmt.Sprint(x.text, " ", slices.Index(l, x.to)))
		} else {
			out = append(out, x.text)
		}
	}
	return code(strings.Join(out, ", "))
}

// known is the word of an instruction, and its number.
func known(x *node) (string, int64) {
	word, number, _ := strings.Cut(x.text, " ")
	n, _ := strconv.ParseInt(number, 10, 64) // 0, if there is none
	return word, n
}

// three answers what comes of two constants.
func three(a, b *node, op string) (put string, ok bool) {
	first, m := known(a)
	second, n := known(b)
	table, isTruth := ofTruths[op]
	at := 1 + slices.Index(words, op)
	switch {
	case first == "push" && second == "push" && at >= api.OpAdd && at <= api.OpGe:
		return ofNumbers(op, m, n)
	case first == "truth" && second == "truth" && isTruth:
		return "truth " + table[2*m+n:][:1], true
	}
	return "", false
}

// two answers what stands in the place of two instructions, and where it jumps.
func two(a, b *node) (put []*node, ok bool) {
	word, n := known(a)
	switch word + " " + b.text {
	case "push drop", "truth drop", "load drop":
		return nil, true
	case "push neg":
		return []*node{{text: fmt.Sprint("push ", -n)}}, true
	case "truth not":
		return []*node{{text: fmt.Sprint("truth ", 1-n)}}, true
	case "truth else":
		if n == 0 {
			return []*node{{text: "jump", to: b.to}}, true
		}
		return nil, true
	}
	return nil, false
}

// rewriting is one thing that may be done: so many at a place become something.
type rewriting struct {
	at, size int
	put      []*node
}

// may are all things that may be done, anywhere.
func may(l []*node) []rewriting {
	var out []rewriting
	for at := range l {
		if at+3 < len(l) {
			if put, ok := three(l[at], l[at+1], l[at+2].text); ok {
				out = append(out, rewriting{at, 3, []*node{{text: put}}})
			}
		}
		if at+2 < len(l) {
			if put, ok := two(l[at], l[at+1]); ok {
				out = append(out, rewriting{at, 2, put})
			}
		}
		if at+1 < len(l) && l[at].text == "jump" && l[at].to == l[at+1] {
			out = append(out, rewriting{at, 1, nil})
		}
	}
	return slices.DeleteFunc(out, func(w rewriting) bool {
		return slices.ContainsFunc(l, func(x *node) bool { return slices.Contains(l[w.at+1:w.at+w.size], x.to) })
	})
}

// oracle is a second reckoning of what is left of code: one thing after the other is done, whichever, wherever, as long as there is one.
func oracle(r *rand.Rand, code []api.Instr) []api.Instr {
	l := nodesOf(code)
	for {
		all := may(l)
		if len(all) == 0 {
			return codeOf(l)
		}
		w := all[r.Intn(len(all))]
		old := l[w.at]
		l = slices.Replace(l, w.at, w.at+w.size, w.put...)
		for _, x := range l {
			if x.to == old {
				x.to = l[w.at]
			}
		}
	}
}
