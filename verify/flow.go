package verify

import (
	"yieldshape/api"
	"yieldshape/throw"
)

// flow goes through what a unit may do (promise G3).
type flow struct {
	unit
	known               // now
	at    int           // the instruction that is looked at
	row   []int         // the instructions that are to be looked at
	come  map[int]known // at those that were ever come to
}

func (f *flow) whole() {
	for n := range f.Params {
		f.fill(n)
	}
	f.note(0, f.known)
	for len(f.row) > 0 {
		f.at, f.row = f.row[0], f.row[1:]
		f.known = f.come[f.at]
		f.reckon(f.Code[f.at])
		f.leave(f.Code[f.at])
	}
}

// note lays down what is known at an instruction, which is to be looked at with that.
func (f *flow) note(at int, k known) {
	f.come[at] = k
	f.row = append(f.row, at)
}

// leave goes on wherever the instruction may lead.
func (f *flow) leave(c api.Instr) {
	switch c.Op {
	case api.OpRet, api.OpEnd:
	case api.OpJump:
		f.goOn(c.A)
	case api.OpElse:
		f.goOn(c.A)
		f.goOn(f.at + 1)
	default:
		f.goOn(f.at + 1)
	}
}

func (f *flow) goOn(at int) {
	f.must(at < len(f.Code), api.ErrRange)
	there, before := f.come[at]
	if !before {
		f.note(at, f.known)
		return
	}
	f.must(there.same(f.stack), api.ErrFit)
	left := there.both(f.filled)
	if left != there.filled {
		there.filled = left
		f.note(at, there)
	}
}

// must throws err at the instruction that is looked at, unless ok.
func (f *flow) must(ok bool, err api.Errno) {
	if !ok {
		throw.Fault(err, f.at)
	}
}
