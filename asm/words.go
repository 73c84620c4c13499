package asm

import (
	"slices"
	"strings"

	"yieldshape/api"
)

// words of kinds that follow each other, from first on.
type words struct {
	first int
	list  []string
}

func unitWords() words { return words{api.DFn, strings.Fields("fn gen task")} }

func instrWords() words {
	return words{api.OpPush, strings.Fields("push truth load store drop neg not add sub mul div mod eq ne lt le gt ge and or jump else call ret end send recv out start resume yield alive")}
}

// of answers the word of a kind, and whether there is such a kind.
func (w words) of(kind int) (string, bool) {
	if kind < w.first || kind-w.first >= len(w.list) {
		return "", false
	}
	return w.list[kind-w.first], true
}

// kind answers the kind that word tells, and whether it tells one.
func (w words) kind(word string) (int, bool) {
	n := slices.Index(w.list, word)
	return w.first + n, n >= 0
}

// Which number of an instruction stands in its line.
const (
	noNumber = iota
	numberN
	numberA
)

func numberOf(op int) int {
	switch op {
	case api.OpPush:
		return numberN
	case api.OpTruth, api.OpLoad, api.OpStore, api.OpJump, api.OpElse, api.OpCall, api.OpSend, api.OpRecv, api.OpStart:
		return numberA
	}
	return noNumber
}
