package verify_test

import (
	"slices"
	"strings"

	"yieldshape/api"
)

// signs: what an instruction takes (n number, t truth; the last one on top), and puts.
var signs = map[string]string{
	"push": ">n", "truth": ">t", "neg": "n>n", "not": "t>t", "else": "t>", "jump": ">", "end": ">",
	"add": "nn>n", "sub": "nn>n", "mul": "nn>n", "div": "nn>n", "mod": "nn>n",
	"lt": "nn>t", "le": "nn>t", "gt": "nn>t", "ge": "nn>t", "and": "tt>t", "or": "tt>t",
}

func typesOf(letters string) []int {
	var out []int
	for _, c := range letters {
		out = append(out, 1+strings.IndexRune("nt", c))
	}
	return out
}

// place is what is known at an instruction: all of it laid out, nothing shared.
type place struct {
	stack []int
	has   []bool
}

func (p place) copy() place { return place{slices.Clone(p.stack), slices.Clone(p.has)} }

// takes answers what is wrong when these are taken, the last one from the top.
func (p *place) takes(l []int) api.Errno {
	for i := range l {
		n := len(p.stack) - 1
		if n < 0 {
			return api.ErrStuck
		}
		if p.stack[n] != l[len(l)-1-i] {
			return api.ErrType
		}
		p.stack = p.stack[:n]
	}
	return api.OK
}

// sign answers what an instruction takes and puts at a place, by what lies there where it may take several things; or what is wrong ahead of that.
func sign(m api.Module, u api.Unit, c api.Instr, p place) (takes, puts []int, err api.Errno) {
	word := words[c.Op-1]
	if s, ok := signs[word]; ok {
		before, behind, _ := strings.Cut(s, ">")
		return typesOf(before), typesOf(behind), wrongKind(word, u.Kind)
	}
	var top, below int
	n := len(p.stack)
	if n > 0 {
		top = p.stack[n-1]
	}
	if n > 1 {
		below = p.stack[n-2]
	}
	switch word {
	case "load":
		if !p.has[c.A] {
			err = api.ErrState
		}
		return nil, []int{u.Locals[c.A]}, err
	case "store":
		return []int{u.Locals[c.A]}, nil, api.OK
	case "call":
		return m.Units[c.A].Locals[:m.Units[c.A].Params], []int{m.Units[c.A].Result}, api.OK
	case "start":
		return m.Units[c.A].Locals[:m.Units[c.A].Params], []int{c.A + 10}, api.OK
	case "send":
		return []int{m.Boxes[c.A].Type}, nil, api.OK
	case "recv":
		return nil, []int{m.Boxes[c.A].Type}, api.OK
	case "yield":
		return []int{u.Result}, []int{u.Takes}, wrongKind(word, u.Kind)
	case "ret":
		return []int{u.Result}, nil, wrongKind(word, u.Kind)
	}
	if n == 0 || word == "resume" && n == 1 {
		return nil, nil, api.ErrStuck
	}
	plain := top == 1 || top == 2
	switch {
	case word == "drop", word == "out" && plain:
		return []int{top}, nil, api.OK
	case (word == "eq" || word == "ne") && plain:
		return []int{top, top}, []int{2}, api.OK
	case word == "alive" && !plain:
		return []int{top}, []int{2}, api.OK
	case word == "resume" && below >= 10:
		return []int{below, m.Units[below-10].Takes}, []int{m.Units[below-10].Result}, api.OK
	}
	return nil, nil, api.ErrType
}

func wrongKind(word string, kind int) api.Errno {
	if word == "yield" && kind != api.DGen || word == "ret" && kind != api.DFn || word == "end" && kind == api.DFn {
		return api.ErrFit
	}
	return api.OK
}

// after changes a place by an instruction.
func (p *place) after(m api.Module, u api.Unit, c api.Instr) api.Errno {
	takes, puts, err := sign(m, u, c, *p)
	if err != api.OK {
		return err
	}
	if err := p.takes(takes); err != api.OK {
		return err
	}
	if (c.Op == api.OpRet || c.Op == api.OpEnd) && len(p.stack) > 0 {
		return api.ErrStuck
	}
	if p.stack = append(p.stack, puts...); len(p.stack) > 300 {
		return api.ErrMuch
	}
	if c.Op == api.OpStore {
		p.has[c.A] = true
	}
	return api.OK
}

// oracle tells what Verify must tell, as the chapter says it word by word.
func oracle(m api.Module) api.Where {
	if len(m.Boxes) > 30 || len(m.Units) > 30 {
		return api.Where{Err: api.ErrMany}
	}
	for i, b := range m.Boxes {
		if b.Type != 1 && b.Type != 2 {
			return api.Where{Err: api.ErrType, At: i}
		}
		if b.Cap < 1 || b.Cap > 20 {
			return api.Where{Err: api.ErrRange, At: i}
		}
	}
	tasks := 0
	for i, u := range m.Units {
		if err := oracleHead(m, u); err != api.OK {
			return api.Where{Err: err, Unit: i}
		}
		for at, c := range u.Code {
			if err := oracleForm(m, u, c); err != api.OK {
				return api.Where{Err: err, Unit: i, At: at}
			}
		}
		if u.Kind == api.DTask {
			tasks++
		}
	}
	if tasks == 0 {
		return api.Where{Err: api.ErrNone}
	}
	for i, u := range m.Units {
		if err, at := oracleFlow(m, u); err != api.OK {
			return api.Where{Err: err, Unit: i, At: at}
		}
	}
	return oracleBoxes(m)
}

func generators(m api.Module) (types []int) {
	for i, u := range m.Units {
		if u.Kind == api.DGen {
			types = append(types, 10+i)
		}
	}
	return types
}

func oracleHead(m api.Module, u api.Unit) api.Errno {
	plains := []int{1, 2}
	if !slices.Contains([]int{2, 3, 4}, u.Kind) {
		return api.ErrKind
	}
	if len(u.Locals) > 200 || u.Params < 0 || u.Params > 6 || u.Params > len(u.Locals) {
		return api.ErrMany
	}
	if u.Kind == 4 && u.Params != 0 || len(u.Code) == 0 || len(u.Code) > 4000 {
		return api.ErrMany
	}
	if u.Kind != 4 && !slices.Contains(plains, u.Result) || u.Kind == 3 && !slices.Contains(plains, u.Takes) {
		return api.ErrType
	}
	for _, t := range u.Locals {
		if !slices.Contains(append(plains, generators(m)...), t) {
			return api.ErrType
		}
	}
	return api.OK
}

func oracleForm(m api.Module, u api.Unit, c api.Instr) api.Errno {
	if c.Op < 1 || c.Op > 32 {
		return api.ErrKind
	}
	from, to := 0, 0 // A is from from on, and below to
	switch words[c.Op-1] {
	default:
		return api.OK
	case "truth":
		to = 2
	case "load", "store":
		to = len(u.Locals)
	case "jump", "else":
		to = len(u.Code)
	case "send", "recv":
		to = len(m.Boxes)
	case "call", "start":
		to = len(m.Units)
	}
	if c.A < from || c.A >= to {
		return api.ErrRange
	}
	if c.Op == api.OpCall && m.Units[c.A].Kind != 2 || c.Op == api.OpStart && m.Units[c.A].Kind != 3 {
		return api.ErrRange
	}
	return api.OK
}

func oracleFlow(m api.Module, u api.Unit) (err api.Errno, at int) {
	begin := place{has: make([]bool, len(u.Locals))}
	for i := range u.Params {
		begin.has[i] = true
	}
	known := make([]*place, len(u.Code))
	known[0] = &begin
	for row := []int{0}; len(row) > 0; {
		at, row = row[0], row[1:]
		c, now := u.Code[at], known[at].copy()
		if err := now.after(m, u, c); err != api.OK {
			return err, at
		}
		next := []int{at + 1}
		switch words[c.Op-1] {
		case "ret", "end":
			next = nil
		case "jump":
			next = []int{c.A}
		case "else":
			next = []int{c.A, at + 1}
		}
		for _, to := range next {
			if to >= len(u.Code) {
				return api.ErrRange, at
			}
			there := known[to]
			if there == nil {
				fresh := now.copy()
				known[to] = &fresh
				row = append(row, to)
				continue
			}
			if !slices.Equal(there.stack, now.stack) {
				return api.ErrFit, at
			}
			lost := 0
			for i := range there.has {
				if there.has[i] && !now.has[i] {
					there.has[i] = false
					lost++
				}
			}
			if lost > 0 {
				row = append(row, to)
			}
		}
	}
	return api.OK, 0
}

// oracleBoxes goes, until nothing new comes, through who comes to whose code.
func oracleBoxes(m api.Module) api.Where {
	n := len(m.Units)
	comes := make([][]bool, n)
	for i := range comes {
		comes[i] = make([]bool, n)
		comes[i][i] = true
		for _, c := range m.Units[i].Code {
			if c.Op == api.OpCall || c.Op == api.OpStart {
				comes[i][c.A] = true
			}
		}
	}
	for mid := range n {
		for from := range n {
			for to := range n {
				comes[from][to] = comes[from][to] || comes[from][mid] && comes[mid][to]
			}
		}
	}
	for b := range m.Boxes {
		for _, op := range []int{api.OpSend, api.OpRecv} {
			count := 0
			for i, u := range m.Units {
				speaks := func(j int) bool {
					return comes[i][j] && slices.ContainsFunc(m.Units[j].Code, func(c api.Instr) bool { return c.Op == op && c.A == b })
				}
				for j := range n {
					if u.Kind == api.DTask && speaks(j) {
						count++
						break
					}
				}
			}
			if count > 1 {
				return api.Where{Err: api.ErrFit, At: b}
			}
		}
	}
	return api.Where{}
}
