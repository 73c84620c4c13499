package image

import (
	"yieldshape/api"
	"yieldshape/throw"
)

// reader has the bytes that are still to be read. It throws ErrForm where they are not as a writer writes them.
type reader struct{ rest []byte }

func (r *reader) module() (m api.Module) {
	for range r.count() {
		m.Boxes = append(m.Boxes, r.box())
	}
	for range r.count() {
		m.Units = append(m.Units, r.unit())
	}
	if len(r.rest) > 0 {
		fail()
	}
	return m
}

func (r *reader) box() (b api.BoxInfo) {
	r.ints(&b.Type, &b.Cap)
	return b
}

func (r *reader) unit() (u api.Unit) {
	r.ints(&u.Kind, &u.Params)
	for range r.count() {
		u.Locals = append(u.Locals, int(r.number()))
	}
	r.ints(&u.Result, &u.Takes)
	for range r.count() {
		u.Code = append(u.Code, r.instr())
	}
	return u
}

func (r *reader) instr() (c api.Instr) {
	r.ints(&c.Op, &c.A)
	c.N = r.number()
	return c
}

func (r *reader) ints(l ...*int) {
	for _, n := range l {
		*n = int(r.number())
	}
}

// count is how many entries follow. Nothing is laid ready for them: they may be more than the bytes that are left could tell.
func (r *reader) count() int64 {
	n := r.number()
	if n < 0 {
		fail()
	}
	return n
}

func (r *reader) number() int64 {
	bits := uint64(0)
	for shift := 0; ; shift += 7 {
		c := r.next()
		// Of 64 bits the tenth byte has only one, and it is the last byte.
		if shift == 63 && c > 1 {
			fail()
		}
		bits |= uint64(c&low7) << shift
		if c >= follows {
			continue
		}
		// A last byte without a bit would not have been needed.
		if c == 0 && shift > 0 {
			fail()
		}
		return unfolded(bits)
	}
}

func (r *reader) next() byte {
	if len(r.rest) == 0 {
		fail()
	}
	c := r.rest[0]
	r.rest = r.rest[1:]
	return c
}

func fail() { throw.Fault(api.ErrForm, 0) }
