package asm

import (
	"strconv"

	"yieldshape/api"
)

// writer has the text that is written so far. As soon as it is full nothing more is written, so that a module takes little room, however great it is; its kinds are looked at all the same.
type writer struct {
	written       []byte
	units, instrs words
}

func newWriter() *writer {
	return &writer{units: unitWords(), instrs: instrWords()}
}

// full: there is more than may be answered.
func (w *writer) full() bool { return len(w.written) > api.MaxListing }

func (w *writer) boxes(l []api.BoxInfo) {
	for _, b := range l {
		if w.full() {
			return
		}
		w.put("box")
		w.ints(b.Type, b.Cap)
		w.put("\n")
	}
}

// unit writes unit n, or answers what is wrong with it.
func (w *writer) unit(n int, u api.Unit) api.Where {
	word, ok := w.units.of(u.Kind)
	if !ok {
		return api.Where{Err: api.ErrKind, Unit: n}
	}
	w.head(word, u)
	for at, c := range u.Code {
		word, ok := w.instrs.of(c.Op)
		if !ok {
			return api.Where{Err: api.ErrKind, Unit: n, At: at}
		}
		w.instr(word, c)
	}
	if w.full() {
		return api.Where{Err: api.ErrMuch}
	}
	return api.Where{}
}

func (w *writer) head(word string, u api.Unit) {
	w.put(word)
	w.ints(u.Params, u.Result, u.Takes)
	w.ints(u.Locals...)
	w.put("\n")
}

func (w *writer) instr(word string, c api.Instr) {
	if w.full() {
		return
	}
	w.put("\t", word)
	switch numberOf(c.Op) {
	case numberN:
		w.number(c.N)
	case numberA:
		w.ints(c.A)
	}
	w.put("\n")
}

func (w *writer) ints(l ...int) {
	for _, n := range l {
		if w.full() {
			return
		}
		w.number(int64(n))
	}
}

func (w *writer) number(n int64) { w.put(" ", strconv.FormatInt(n, 10)) }

func (w *writer) put(l ...string) {
	for _, s := range l {
		w.written = append(w.written, s...)
	}
}
