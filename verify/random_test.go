package verify_test

import (
	"math"
	"math/rand"
	"slices"
	"testing"

	"yieldshape/api"
	"yieldshape/verify"
)

// checkOracle: Verify tells what the oracle tells. It answers which error that is.
func checkOracle(t *testing.T, m api.Module) api.Errno {
	t.Helper()
	got, want := verify.Verify(m), oracle(m)
	if got != want {
		t.Fatalf("Verify(%v) = %v; want %v", m, got, want)
	}
	return got.Err
}

// TestEachShortCode: all code of up to four instructions of a few kinds, in a unit of each kind.
func TestEachShortCode(t *testing.T) {
	few := code("push 1, truth 1, load 0, store 0, drop, not, add, eq, jump 0, jump 2, else 1, else 3, call 3, ret, end, recv 1, start 0, resume, yield")
	count := map[api.Errno]int{}
	m := around(api.Unit{})
	for n := 1; n <= 4; n++ {
		total := 1
		for range n {
			total *= len(few)
		}
		for number := range total {
			u := api.Unit{Kind: kinds[number%len(kinds)], Locals: []int{truth}, Takes: truth, Result: truth}
			for rest := number; len(u.Code) < n; rest /= len(few) {
				u.Code = append(u.Code, few[rest%len(few)])
			}
			m.Units[unitHere] = u
			count[checkOracle(t, m)]++
		}
	}
	for _, err := range []api.Errno{api.OK, api.ErrRange, api.ErrFit, api.ErrType, api.ErrState, api.ErrStuck} {
		if count[err] < 50 {
			t.Errorf("%v is told %d times: that tells too little", err, count[err])
		}
	}
}

// maker makes units that mostly run without getting stuck.
type maker struct {
	*rand.Rand
	m api.Module
}

func (k maker) plain() int { return 1 + k.Intn(2) }

func (k maker) typ() int {
	if l := generators(k.m); len(l) > 0 && k.Intn(3) == 0 {
		return l[k.Intn(len(l))]
	}
	return k.plain()
}

func newModule(r *rand.Rand) api.Module {
	k := maker{Rand: r}
	for range k.Intn(4) {
		k.m.Boxes = append(k.m.Boxes, api.BoxInfo{Type: k.plain(), Cap: 1 + k.Intn(20)})
	}
	for range 1 + k.Intn(6) {
		k.m.Units = append(k.m.Units, api.Unit{Kind: 2 + k.Intn(3)})
	}
	k.m.Units[k.Intn(len(k.m.Units))].Kind = api.DTask
	for i := range k.m.Units {
		u := &k.m.Units[i]
		u.Result, u.Takes = k.plain(), k.plain()
		for range k.Intn(6) {
			u.Locals = append(u.Locals, k.typ())
		}
		if u.Kind != api.DTask {
			u.Params = k.Intn(1 + min(len(u.Locals), 3))
		}
	}
	for i := range k.m.Units {
		k.body(&k.m.Units[i])
	}
	return k.m
}

// body makes code by doing what it does; jumps go, mostly, to where the stack is the same.
func (k maker) body(u *api.Unit) {
	p := place{has: make([]bool, len(u.Locals))}
	for i := range u.Params {
		p.has[i] = true
	}
	var stacks [][]int // ahead of each instruction
	lay := func(c api.Instr) {
		stacks = append(stacks, slices.Clone(p.stack))
		u.Code = append(u.Code, c)
		p.after(k.m, *u, c)
	}
	for range k.Intn(40) {
		for range 50 {
			c := api.Instr{Op: 1 + k.Intn(32), A: k.Intn(6), N: int64(k.Intn(9))}
			if c.Op == api.OpJump && k.Intn(4) > 0 || len(p.stack) > 3 && k.Intn(2) > 0 {
				c.Op = api.OpDrop
			}
			try := p.copy()
			if c.Op == api.OpRet || c.Op == api.OpEnd || oracleForm(k.m, *u, c) == api.ErrRange && c.Op != api.OpJump && c.Op != api.OpElse {
				continue
			}
			if try.after(k.m, *u, c) == api.OK {
				lay(c)
				break
			}
		}
	}
	for len(p.stack) > 0 {
		lay(api.Instr{Op: api.OpDrop})
	}
	if u.Kind == api.DFn {
		lay(api.Instr{Op: []int{0, api.OpPush, api.OpTruth}[u.Result]})
		lay(api.Instr{Op: api.OpRet})
	} else {
		lay(api.Instr{Op: api.OpEnd})
	}
	k.aim(u.Code, stacks)
}

func (k maker) aim(code []api.Instr, stacks [][]int) {
	for i, c := range code {
		if c.Op != api.OpJump && c.Op != api.OpElse {
			continue
		}
		now := stacks[i]
		if c.Op == api.OpElse {
			now = now[:len(now)-1]
		}
		var fit []int
		for at, s := range stacks {
			if slices.Equal(s, now) && (at > i || k.Intn(3) == 0) {
				fit = append(fit, at)
			}
		}
		code[i].A = i + 1
		if len(fit) > 0 {
			code[i].A = fit[k.Intn(len(fit))]
		}
	}
}

// spoilt is m with something else somewhere in it.
func spoilt(r *rand.Rand, m api.Module) api.Module {
	out := api.Module{Boxes: slices.Clone(m.Boxes), Units: slices.Clone(m.Units)}
	u := &out.Units[r.Intn(len(out.Units))]
	u.Locals, u.Code = slices.Clone(u.Locals), slices.Clone(u.Code)
	odd := []int{math.MinInt, -1, 0, 1, 2, 3, 4, 5, 6, 7, 9, 10, 11, 12, 13, 15, 20, 21, 33, math.MaxInt}
	n := odd[r.Intn(len(odd))]
	at := r.Intn(len(u.Code))
	switch r.Intn(14) {
	case 0:
		u.Kind = n
	case 1:
		u.Params = n
	case 2:
		u.Result = n
	case 3:
		u.Takes = n
	case 4:
		u.Locals = append(u.Locals, n)
	case 5:
		if len(u.Locals) > 0 {
			u.Locals[r.Intn(len(u.Locals))] = n
		}
	case 6:
		if len(out.Boxes) > 0 {
			out.Boxes[r.Intn(len(out.Boxes))].Cap = n
		}
	case 7:
		if len(out.Boxes) > 0 {
			out.Boxes[r.Intn(len(out.Boxes))].Type = n
		}
	case 8:
		u.Code = slices.Delete(u.Code, at, at+1)
	case 9:
		u.Code = slices.Insert(u.Code, at, u.Code[r.Intn(len(u.Code))])
	case 10:
		u.Code[at].A = n
	case 11:
		u.Code[at].Op = n
	default:
		u.Code[at].Op = 1 + r.Intn(32)
	}
	return out
}

func TestRandomModules(t *testing.T) {
	r := rand.New(rand.NewSource(7))
	count := map[api.Errno]int{}
	for range 10000 {
		m := newModule(r)
		count[checkOracle(t, m)]++
		for range 4 {
			count[checkOracle(t, spoilt(r, m))]++
		}
	}
	for _, err := range []api.Errno{api.OK, api.ErrKind, api.ErrRange, api.ErrMany, api.ErrNone, api.ErrFit, api.ErrType, api.ErrState, api.ErrStuck} {
		if count[err] < 50 {
			t.Errorf("%v is told %d times: that tells too little", err, count[err])
		}
	}
}

// TestRandomJumps: units that do nothing but go hither and thither, store and load: who comes where, with what, in which order.
func TestRandomJumps(t *testing.T) {
	r := rand.New(rand.NewSource(70))
	count := map[api.Errno]int{}
	for range 60000 {
		u := api.Unit{Kind: api.DTask, Locals: slices.Repeat([]int{number}, 1+r.Intn(8))}
		size := 6 + 2*r.Intn(20)
		for len(u.Code) < size {
			to, local := 2*r.Intn(size/2), r.Intn(len(u.Locals))
			switch r.Intn(8) {
			case 0:
				u.Code = append(u.Code, api.Instr{Op: api.OpJump, A: to}, api.Instr{Op: api.OpEnd})
			case 1, 2, 3:
				u.Code = append(u.Code, api.Instr{Op: api.OpTruth}, api.Instr{Op: api.OpElse, A: to})
			case 4, 5, 6:
				u.Code = append(u.Code, api.Instr{Op: api.OpPush}, api.Instr{Op: api.OpStore, A: local})
			default:
				u.Code = append(u.Code, api.Instr{Op: api.OpLoad, A: local}, api.Instr{Op: api.OpDrop})
			}
		}
		u.Code = append(u.Code, api.Instr{Op: api.OpEnd})
		count[checkOracle(t, api.Module{Units: []api.Unit{u}})]++
	}
	if count[api.OK] < 2000 || count[api.ErrState] < 2000 {
		t.Errorf("%v: that tells too little", count)
	}
}

// TestRandomNonsense: whatever stands in a module, the call ends, and answers what it must.
func TestRandomNonsense(t *testing.T) {
	r := rand.New(rand.NewSource(700))
	number := func() int {
		if r.Intn(20) == 0 {
			return int(r.Uint64()) >> r.Intn(64)
		}
		return r.Intn(14)
	}
	for range 20000 {
		var m api.Module
		for range r.Intn(3) {
			m.Boxes = append(m.Boxes, api.BoxInfo{Type: number(), Cap: number()})
		}
		for range r.Intn(4) {
			u := api.Unit{Kind: number(), Params: number(), Result: number(), Takes: number()}
			for range r.Intn(4) {
				u.Locals = append(u.Locals, number())
			}
			for range r.Intn(9) {
				u.Code = append(u.Code, api.Instr{Op: number() + number() + number(), A: number(), N: int64(number())})
			}
			m.Units = append(m.Units, u)
		}
		checkOracle(t, m)
	}
}
