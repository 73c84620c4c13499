package vm_test

import (
	"math/rand"
	"slices"
	"testing"

	"yieldshape/api"
	"yieldshape/verify"
	"yieldshape/vm"
)

// taskUnit answers the unit of a module's first task.
func taskUnit(m api.Module) int {
	return slices.IndexFunc(m.Units, func(u api.Unit) bool { return u.Kind == api.DTask })
}

// checkOracle: Solo tells what the second reckoning tells.
func checkOracle(t *testing.T, p play, most int) api.Report {
	t.Helper()
	want := oracleSolo(p.m, taskUnit(p.m), p.feeds, most)
	got, err := vm.Solo(p.m, 0, p.feeds, most)
	if err != api.OK || !same(got, want) {
		t.Fatalf("%s\n%v\nfed %v, %d steps: Solo = %+v, %v; want %+v", p.text, p.m, p.feeds, most, got, err, want)
	}
	return got
}

// ends are how often tasks came to rest in which way.
type ends map[[2]int]int

func (e ends) count(r api.Report) { e[[2]int{r.State, r.Trap}]++ }

// enough: all ways that there are for a task that runs by itself, but TrapBusy (see TestI3Busy), come that often.
func (e ends) enough(t *testing.T, least int) {
	t.Helper()
	for _, way := range [][2]int{
		{api.Ready, 0}, {api.Waiting, 0}, {api.Done, 0},
		{api.Trapped, api.TrapZero}, {api.Trapped, api.TrapDone}, {api.Trapped, api.TrapStack}, {api.Trapped, api.TrapMany},
	} {
		if e[way] < least {
			t.Errorf("state and trap %v come %d times: that tells too little", way, e[way])
		}
	}
}

func TestRandomPrograms(t *testing.T) {
	r := rand.New(rand.NewSource(9))
	came, told := ends{}, 0
	for _, p := range made(t, 9, 6000) {
		got := checkOracle(t, p, api.MaxSolo)
		came.count(got)
		told += min(len(got.Out), len(slices.Concat(got.Sent...)), 1)
		checkOracle(t, p, r.Intn(200))
	}
	came.enough(t, 50)
	if told < 2000 {
		t.Errorf("%d tasks put something out and send something: that tells too little", told)
	}
}

// changed is m with something else here and there in its code, which may be wrong now.
func changed(r *rand.Rand, m api.Module) api.Module {
	out := api.Module{Boxes: m.Boxes, Units: slices.Clone(m.Units)}
	u := &out.Units[r.Intn(len(out.Units))]
	u.Locals, u.Code = slices.Clone(u.Locals), slices.Clone(u.Code)
	at := r.Intn(len(u.Code))
	switch r.Intn(7) {
	case 0:
		u.Code[at].A = r.Intn(8)
	case 1:
		u.Code[at].A = r.Intn(len(u.Code))
	case 2:
		u.Code[at].Op = 1 + r.Intn(len(words))
	case 3:
		u.Code = slices.Delete(u.Code, at, at+1)
	case 4:
		u.Code = slices.Insert(u.Code, at, code("push 5, drop")...)
	case 5:
		u.Locals = append(u.Locals, numbers(r.Intn(40))...)
	case 6:
		u.Code = slices.Insert(u.Code, at, u.Code[r.Intn(len(u.Code))])
	}
	return out
}

// TestRandomModules: such as no program becomes, but Verify lets through.
func TestRandomModules(t *testing.T) {
	r := rand.New(rand.NewSource(99))
	came := ends{}
	for _, p := range made(t, 99, 1500) {
		for range 20 {
			if m := changed(r, p.m); verify.Verify(m).Err == api.OK {
				p.m = m
				came.count(checkOracle(t, p, r.Intn(api.MaxSolo)))
			}
		}
	}
	came.enough(t, 50)
}

// TestFedMoreSaysNoLess: what a task said is the beginning of what it says when more follows on each feed.
func TestFedMoreSaysNoLess(t *testing.T) {
	r := rand.New(rand.NewSource(999))
	begins := func(less, more []int64) bool { return len(less) <= len(more) && slices.Equal(less, more[:len(less)]) }
	grew := 0
	for _, p := range made(t, 999, 1500) {
		more, _ := vm.Solo(p.m, 0, p.feeds, 2000)
		fewer := slices.Clone(p.feeds)
		for i, l := range fewer {
			fewer[i] = l[:r.Intn(len(l)+1)/(1+r.Intn(9))]
		}
		less, _ := vm.Solo(p.m, 0, fewer, 2000)
		if !begins(less.Out, more.Out) || !slices.EqualFunc(less.Sent, more.Sent, begins) || less.Steps > more.Steps {
			t.Fatalf("%s: fed %v: %+v; fed %v: %+v", p.text, fewer, less, p.feeds, more)
		}
		if less.State != api.Waiting && !same(less, more) {
			t.Fatalf("%s: it doesn't wait: %+v; fed more: %+v", p.text, less, more)
		}
		grew += min(more.Steps-less.Steps, 1)
	}
	if grew < 200 {
		t.Errorf("%d say more: that tells too little", grew)
	}
}
