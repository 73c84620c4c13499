package vm

import (
	"slices"
	"testing"

	"yieldshape/api"
	"yieldshape/mail"
)

// Boxes of package mail, and lists, are what tasks send to and receive from.
var (
	_ Box = (*mail.Box)(nil)
	_ Box = (*list)(nil)
)

func handMade(codes ...[]api.Instr) api.Module {
	m := api.Module{Boxes: []api.BoxInfo{{Type: 1, Cap: 2}, {Type: 1, Cap: 1}}}
	for i, c := range codes {
		kind := api.DGen
		if i == 0 {
			kind = api.DTask
		}
		m.Units = append(m.Units, api.Unit{Kind: kind, Result: 1, Takes: 1, Code: c})
	}
	return m
}

func wantState(t *testing.T, k *Task, state, box, trap int) {
	t.Helper()
	if s, b := k.state(); s != state || b != box || k.trap != trap {
		t.Errorf("state %d, box %d, trap %d; want %d, %d, %d", s, b, k.trap, state, box, trap)
	}
}

// TestI3Busy: nobody comes by what is going on, in modules that Verify lets through: what is passed and yielded is plain, so that a thread only knows those that it has started, and elder ones that its starter knew. So the words are made here by hand: 1 is the first one that was started.
func TestI3Busy(t *testing.T) {
	itself := []api.Instr{{Op: api.OpPush, N: 1}, {Op: api.OpPush}, {Op: api.OpResume}, {Op: api.OpEnd}}
	outer := []api.Instr{{Op: api.OpStart, A: 2}, {Op: api.OpPush}, {Op: api.OpResume}, {Op: api.OpOut}, {Op: api.OpEnd}}
	first := []api.Instr{{Op: api.OpStart, A: 1}, {Op: api.OpPush}, {Op: api.OpResume}, {Op: api.OpOut}, {Op: api.OpEnd}}
	k := newTask(handMade(first, itself), 0, nil)
	if steps := k.Run(100); steps != 6 {
		t.Errorf("who resumes itself: %d steps", steps)
	}
	wantState(t, k, api.Trapped, 0, api.TrapBusy)
	k = newTask(handMade(first, outer, itself), 0, nil)
	if steps := k.Run(100); steps != 9 {
		t.Errorf("who resumes its resumer: %d steps", steps)
	}
	wantState(t, k, api.Trapped, 0, api.TrapBusy)
	// Whoever has yielded is not going any more.
	held := []api.Instr{{Op: api.OpPush, N: 5}, {Op: api.OpYield}, {Op: api.OpOut}, {Op: api.OpEnd}}
	k = newTask(handMade(slices.Concat(first[:4], itself[:3], first[3:]), held), 0, nil)
	k.Run(100)
	wantState(t, k, api.Done, 0, 0)
	if !slices.Equal(k.out, []int64{5, 0, 0}) {
		t.Errorf("%v is put out", k.out)
	}
}

// TestI2Sending: to a box that is full the task doesn't send, until somebody takes from it; from one that is empty it doesn't receive.
func TestI2Sending(t *testing.T) {
	var sends []api.Instr
	for n := range int64(4) {
		sends = append(sends, api.Instr{Op: api.OpPush, N: 10 + n}, api.Instr{Op: api.OpSend})
	}
	m := handMade(append(sends, api.Instr{Op: api.OpRecv, A: 1}, api.Instr{Op: api.OpOut}, api.Instr{Op: api.OpEnd}))
	to, _ := mail.New(m.Boxes[0].Cap)
	from, _ := mail.New(m.Boxes[1].Cap)
	k := newTask(m, 0, []Box{to, from})
	for i, steps := range []int{5, 2, 1} {
		wantState(t, k, api.Ready, 0, 0)
		if got := k.Run(100); got != steps {
			t.Errorf("%d steps, then it waits; want %d", got, steps)
		}
		if i < 2 {
			wantState(t, k, api.Sending, 0, 0)
		}
		if got := k.Run(100); i < 2 && got != 0 {
			t.Errorf("%d steps of a task that waits", got)
		}
		if v := to.Take(); v != int64(10+i) {
			t.Errorf("%d comes out as number %d", v, i)
		}
	}
	wantState(t, k, api.Waiting, 1, 0)
	from.Put(77)
	wantState(t, k, api.Ready, 0, 0)
	k.Run(100)
	wantState(t, k, api.Done, 0, 0)
	if !slices.Equal(k.out, []int64{77}) || to.Take() != 13 || !to.Empty() || !from.Empty() {
		t.Errorf("%v is put out", k.out)
	}
}

// TestNewTasks: all units that are tasks, in order, each for itself, with boxes between them.
func TestNewTasks(t *testing.T) {
	send := []api.Instr{{Op: api.OpPush, N: 4}, {Op: api.OpSend, A: 1}, {Op: api.OpEnd}}
	recv := []api.Instr{{Op: api.OpRecv, A: 1}, {Op: api.OpOut}, {Op: api.OpEnd}}
	m := handMade(send, []api.Instr{{Op: api.OpEnd}}, recv)
	m.Units[2].Kind = api.DTask
	boxes := []Box{&list{}, nil}
	boxes[1], _ = mail.New(1)
	l := NewTasks(m, boxes)
	if len(l) != 2 {
		t.Fatalf("%d tasks", len(l))
	}
	wantState(t, l[0], api.Ready, 0, 0)
	wantState(t, l[1], api.Waiting, 1, 0)
	if l[1].Ready() || l[1].Run(5) != 0 || !l[0].Ready() || l[0].Run(2) != 2 {
		t.Errorf("the first one sends, ahead of that the other one waits")
	}
	if !l[1].Ready() || l[1].Run(5) != 3 {
		t.Errorf("the other one doesn't receive")
	}
	if e := l[1].End(); e.State != api.Done || !slices.Equal(e.Out, []int64{4}) {
		t.Errorf("the other one ends so: %+v", e)
	}
	wantState(t, l[0], api.Ready, 0, 0)
}

// TestEndIsTheCallers: whoever changes it changes nothing of the task.
func TestEndIsTheCallers(t *testing.T) {
	out := []api.Instr{{Op: api.OpPush, N: 4}, {Op: api.OpOut}, {Op: api.OpJump}}
	k := newTask(handMade(out), 0, nil)
	for n := range 9 {
		k.Run(3)
		e := k.End()
		if !slices.Equal(e.Out, slices.Repeat([]int64{4}, n+1)) {
			t.Fatalf("%v is put out", e.Out)
		}
		clear(e.Out[:cap(e.Out)])
	}
}

// TestHear: from then on it is told what the task does, and only that.
func TestHear(t *testing.T) {
	code := []api.Instr{{Op: api.OpPush, N: 4}, {Op: api.OpOut}, {Op: api.OpStart, A: 1}, {Op: api.OpPush}, {Op: api.OpResume}, {Op: api.OpSend, A: 1}, {Op: api.OpRecv, A: 1}, {Op: api.OpOut}, {Op: api.OpEnd}}
	m := handMade(code, []api.Instr{{Op: api.OpEnd}})
	want := []api.Event{
		{Kind: api.EvOut, V: 4}, {Kind: api.EvStart, V: 1}, {Kind: api.EvSend, Box: 1}, {Kind: api.EvRecv, Box: 1, V: 9}, {Kind: api.EvOut, V: 9}, {Kind: api.EvDone},
	}
	for late := range 3 {
		boxes := []Box{nil, &list{feed: []int64{9}}}
		k := newTask(m, 0, boxes)
		k.Run(late)
		var heard []api.Event
		k.Hear(func(e api.Event) { heard = append(heard, e) })
		k.Run(100)
		if w := want[late/2:]; !slices.Equal(heard, w) {
			t.Errorf("after %d steps: %v is heard; want %v", late, heard, w)
		}
	}
}
