package asm

import (
	"strconv"
	"strings"

	"yieldshape/api"
)

// reader has the module that the lines so far tell of.
type reader struct {
	module        api.Module
	units, instrs words
}

func newReader() *reader {
	return &reader{units: unitWords(), instrs: instrWords()}
}

// line takes a line in, and tells whether it is one, where it stands.
func (r *reader) line(line string) bool {
	code, isCode := strings.CutPrefix(line, "\t")
	parts := strings.Split(code, " ")
	word, numbers := parts[0], parts[1:]
	switch {
	case isCode:
		return r.instr(word, numbers)
	case word == "box":
		return r.box(numbers)
	}
	return r.unit(word, numbers)
}

func (r *reader) box(numbers []string) bool {
	var b api.BoxInfo
	if len(r.module.Units) > 0 || !fill(numbers, toInt(&b.Type), toInt(&b.Cap)) {
		return false
	}
	r.module.Boxes = append(r.module.Boxes, b)
	return true
}

func (r *reader) unit(word string, numbers []string) bool {
	kind, ok := r.units.kind(word)
	u := api.Unit{Kind: kind}
	places := []place{toInt(&u.Params), toInt(&u.Result), toInt(&u.Takes)}
	for len(places) < len(numbers) {
		places = append(places, func(n int64) { u.Locals = append(u.Locals, int(n)) })
	}
	if !ok || !fill(numbers, places...) {
		return false
	}
	r.module.Units = append(r.module.Units, u)
	return true
}

func (r *reader) instr(word string, numbers []string) bool {
	op, ok := r.instrs.kind(word)
	c := api.Instr{Op: op}
	if !ok || len(r.module.Units) == 0 || !fill(numbers, placesOf(&c)...) {
		return false
	}
	u := &r.module.Units[len(r.module.Units)-1]
	u.Code = append(u.Code, c)
	return true
}

// place takes a number in.
type place func(n int64)

func toInt(field *int) place { return func(n int64) { *field = int(n) } }

// placesOf are those of the numbers that the line of c has.
func placesOf(c *api.Instr) []place {
	switch numberOf(c.Op) {
	case numberN:
		return []place{func(n int64) { c.N = n }}
	case numberA:
		return []place{toInt(&c.A)}
	}
	return nil
}

// fill tells whether there is one number for each place, and brings them there.
func fill(numbers []string, places ...place) bool {
	if len(numbers) != len(places) {
		return false
	}
	for i, text := range numbers {
		n, ok := numberIn(text)
		if !ok {
			return false
		}
		places[i](n)
	}
	return true
}

// numberIn answers the number that text is, if it is one that a writer writes: the library reads more than these.
func numberIn(text string) (int64, bool) {
	n, err := strconv.ParseInt(text, 10, 64)
	return n, err == nil && strconv.FormatInt(n, 10) == text
}
