package image

import (
	"yieldshape/api"
	"yieldshape/throw"
)

// writer has the bytes that are written so far. It throws ErrMuch as soon as they leave no room for the sum, so that no more is written of a module, however great it is.
type writer struct{ written []byte }

func (w *writer) module(m api.Module) {
	w.ints(len(m.Boxes))
	for _, b := range m.Boxes {
		w.ints(b.Type, b.Cap)
	}
	w.ints(len(m.Units))
	for _, u := range m.Units {
		w.unit(u)
	}
}

func (w *writer) unit(u api.Unit) {
	w.ints(u.Kind, u.Params, len(u.Locals))
	w.ints(u.Locals...)
	w.ints(u.Result, u.Takes, len(u.Code))
	for _, c := range u.Code {
		w.ints(c.Op, c.A)
		w.number(c.N)
	}
}

func (w *writer) ints(l ...int) {
	for _, n := range l {
		w.number(int64(n))
	}
}

func (w *writer) number(n int64) {
	bits := folded(n)
	for bits > low7 {
		w.put(byte(bits&low7) | follows)
		bits >>= 7
	}
	w.put(byte(bits))
}

func (w *writer) put(c byte) {
	if len(w.written) == api.MaxImage-sumBytes {
		throw.Fault(api.ErrMuch, 0)
	}
	w.written = append(w.written, c)
}
