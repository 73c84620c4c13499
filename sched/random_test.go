package sched_test

import (
	"math/rand"
	"slices"
	"testing"

	"yieldshape/api"
	"yieldshape/sched"
	"yieldshape/verify"
)

// seen is what came how often.
type seen struct {
	errs   map[api.Errno]int // of picks
	states map[[2]int]int    // with traps
	events map[int]int
	rest   map[bool]int
}

func newSeen() seen {
	return seen{map[api.Errno]int{}, map[[2]int]int{}, map[int]int{}, map[bool]int{}}
}

// enough: whatever may come comes that often, but TrapBusy, to which no module comes that Verify lets through.
func (s seen) enough(t *testing.T, least int) {
	t.Helper()
	for _, err := range []api.Errno{api.OK, api.ErrRange, api.ErrMany, api.ErrState, api.ErrSteps} {
		if s.errs[err] < least {
			t.Errorf("%d picks come to %v: that tells too little", s.errs[err], err)
		}
	}
	for _, way := range [][2]int{
		{api.Ready, 0}, {api.Sending, 0}, {api.Waiting, 0}, {api.Done, 0},
		{api.Trapped, api.TrapZero}, {api.Trapped, api.TrapDone}, {api.Trapped, api.TrapStack}, {api.Trapped, api.TrapMany},
	} {
		if s.states[way] < least {
			t.Errorf("state and trap %v come %d times: that tells too little", way, s.states[way])
		}
	}
	for kind := api.EvOut; kind <= api.EvStart; kind++ {
		if s.events[kind] < least {
			t.Errorf("events of kind %d come %d times: that tells too little", kind, s.events[kind])
		}
	}
	if s.rest[true] < least || s.rest[false] < least {
		t.Errorf("%d come to rest, %d don't: that tells too little", s.rest[true], s.rest[false])
	}
}

// checkOracle: Run, Trace and Settle tell what the second reckoning tells.
func (s seen) checkOracle(t *testing.T, p play, quantum int) {
	t.Helper()
	o := newOracle(p.m)
	defer o.halt()
	var wantDid []api.Did
	for _, pick := range p.picks {
		d := o.pick(pick)
		wantDid = append(wantDid, d)
		s.errs[d.Err]++
	}
	want, events := o.world(), slices.Clone(o.events)
	w, did, err := sched.Run(p.m, p.picks)
	if err != api.OK || !same(w, want) || !slices.Equal(did, wantDid) {
		t.Fatalf("%s\n%v\nRun of %v = %+v, %v, %v; want %+v, %v", p.text, p.m, p.picks, w, did, err, want, wantDid)
	}
	if l, err := sched.Trace(p.m, p.picks); err != api.OK || !slices.Equal(l, events) {
		t.Fatalf("%s\n%v\nTrace of %v = %v, %v; want %v", p.text, p.m, p.picks, l, err, events)
	}
	for _, e := range want.Tasks {
		s.states[[2]int{e.State, e.Trap}]++
	}
	for _, e := range events {
		s.events[e.Kind]++
	}
	s.checkSettle(t, p, quantum, o)
}

func (s seen) checkSettle(t *testing.T, p play, quantum int, o *oracle) {
	t.Helper()
	rests := o.settle()
	s.rest[rests]++
	want, wantErr := api.World{}, api.ErrSteps
	if rests {
		want, wantErr = o.world(), api.OK
	}
	if w, err := sched.Settle(p.m, p.picks, quantum); err != wantErr || !same(w, want) {
		t.Fatalf("%s\n%v\nSettle of %v by %d = %+v, %v; want %+v, %v", p.text, p.m, p.picks, quantum, w, err, want, wantErr)
	}
}

func TestRandomPrograms(t *testing.T) {
	r := rand.New(rand.NewSource(10))
	s := newSeen()
	for _, p := range made(t, 10, 3000) {
		s.checkOracle(t, p, 1+r.Intn(1+r.Intn(api.MaxQuantum)))
	}
	s.enough(t, 50)
}

// changed is m with something else here and there in its code, or other boxes, which may be wrong now.
func changed(r *rand.Rand, m api.Module) api.Module {
	out := api.Module{Boxes: slices.Clone(m.Boxes), Units: slices.Clone(m.Units)}
	u := &out.Units[r.Intn(len(out.Units))]
	u.Locals, u.Code = slices.Clone(u.Locals), slices.Clone(u.Code)
	at := r.Intn(len(u.Code))
	switch r.Intn(8) {
	case 0:
		u.Code[at].A = r.Intn(8)
	case 1:
		u.Code[at].A = r.Intn(len(u.Code))
	case 2:
		u.Code[at].Op = 1 + r.Intn(len(words))
	case 3:
		u.Code = slices.Delete(u.Code, at, at+1)
	case 4:
		u.Code = slices.Insert(u.Code, at, code("push 5, drop")...)
	case 5:
		u.Locals = append(u.Locals, numbers(r.Intn(80))...)
	case 6:
		u.Code = slices.Insert(u.Code, at, u.Code[r.Intn(len(u.Code))])
	case 7:
		out.Boxes[r.Intn(len(out.Boxes))].Cap = 1 + r.Intn(api.MaxCap)
	}
	return out
}

// TestRandomModules: such as no program becomes, but Verify lets through.
func TestRandomModules(t *testing.T) {
	r := rand.New(rand.NewSource(100))
	s := newSeen()
	for _, p := range made(t, 100, 600) {
		for range 15 {
			if m := changed(r, p.m); verify.Verify(m).Err == api.OK {
				p.m = m
				s.checkOracle(t, p, 1+r.Intn(50))
			}
		}
	}
	s.enough(t, 50)
}
