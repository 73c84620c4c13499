package verify

import (
	"yieldshape/api"
	"yieldshape/throw"
)

// unit is one of a module's.
type unit struct {
	module
	api.Unit
}

// head throws what is wrong with the head (promise G2).
func (u unit) head() {
	switch {
	case !u.kindly():
		throw.Fault(api.ErrKind, 0)
	case !u.sized():
		throw.Fault(api.ErrMany, 0)
	case !u.typed():
		throw.Fault(api.ErrType, 0)
	}
}

func (u unit) kindly() bool {
	return u.Kind == api.DFn || u.Kind == api.DGen || u.Kind == api.DTask
}

func (u unit) sized() bool {
	params := min(api.MaxArgs, len(u.Locals))
	if u.Kind == api.DTask {
		params = 0
	}
	return len(u.Locals) <= api.MaxLocals && 0 <= u.Params && u.Params <= params &&
		0 < len(u.Code) && len(u.Code) <= api.MaxCode
}

func (u unit) typed() bool {
	if u.Kind != api.DTask && !plain(u.Result) || u.Kind == api.DGen && !plain(u.Takes) {
		return false
	}
	for _, t := range u.Locals {
		if !plain(t) && !u.is(api.DGen, t-api.Handle) {
			return false
		}
	}
	return true
}

// forms throws what is wrong with the form of an instruction (promise G2).
func (u unit) forms() {
	for at, c := range u.Code {
		if c.Op < api.OpPush || c.Op > api.OpAlive {
			throw.Fault(api.ErrKind, at)
		}
		if !u.ranged(c) {
			throw.Fault(api.ErrRange, at)
		}
	}
}

// ranged: what an instruction names must be there.
func (u unit) ranged(c api.Instr) bool {
	switch c.Op {
	case api.OpTruth:
		return c.A == 0 || c.A == 1
	case api.OpLoad, api.OpStore:
		return 0 <= c.A && c.A < len(u.Locals)
	case api.OpJump, api.OpElse:
		return 0 <= c.A && c.A < len(u.Code)
	case api.OpCall:
		return u.is(api.DFn, c.A)
	case api.OpStart:
		return u.is(api.DGen, c.A)
	case api.OpSend, api.OpRecv:
		return 0 <= c.A && c.A < len(u.Boxes)
	}
	return true
}
