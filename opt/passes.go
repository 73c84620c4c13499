package opt

import "yieldshape/api"

// passes go over code, again and again.
type passes struct {
	code  []api.Instr
	rules []rule
	aims  map[int]struct{} // the instructions that jumps go to
	now   []int            // where each instruction, or what stands in its place, or what follows, has come to
}

func newPasses(code []api.Instr) *passes {
	return &passes{code: copied(code), rules: rules(), aims: map[int]struct{}{}, now: make([]int, len(code))}
}

// over does one pass, and tells whether it did something.
func (p *passes) over() bool {
	p.aim()
	left := p.code[:0] // in the same room: no more is ever written than was read
	for at := 0; at < len(p.code); {
		c := p.change(at)
		p.now[at] = len(left)
		left = append(left, c.put...)
		at += c.gone
	}
	did := len(left) < len(p.code) // what a rule puts is always less than what it names
	p.code = left
	p.moveJumps()
	return did
}

func jumps(c api.Instr) bool { return c.Op == api.OpJump || c.Op == api.OpElse }

// aim notes where jumps go, ahead of a pass: one that is gone within it holds until its end.
func (p *passes) aim() {
	clear(p.aims)
	for _, c := range p.code {
		if jumps(c) {
			p.aims[c.A] = struct{}{}
		}
	}
}

// moveJumps asks only where instructions stand that a pass came to: no jump goes to another one.
func (p *passes) moveJumps() {
	for n, c := range p.code {
		if jumps(c) {
			p.code[n].A = p.now[c.A]
		}
	}
}

// change answers that of the first rule that holds at an instruction; if none does it stays.
func (p *passes) change(at int) change {
	for _, r := range p.rules {
		c := r(at, p.code[at:])
		if c.gone > 0 && p.may(at, c.gone) {
			return c
		}
	}
	return change{gone: 1, put: p.code[at : at+1]}
}

// may tells whether so many instructions may be named from at on: one follows, and no jump goes in between them.
func (p *passes) may(at, named int) bool {
	for n := at + 1; n < at+named; n++ {
		if _, is := p.aims[n]; is {
			return false
		}
	}
	return at+named < len(p.code)
}
