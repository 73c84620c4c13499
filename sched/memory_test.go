package sched_test

import (
	"slices"
	"testing"

	"yieldshape/api"
	"yieldshape/sched"
)

// scribble writes into a list and its spare room.
func scribble[T any](l []T, x T) {
	for i := range l[:cap(l)] {
		l[:cap(l)][i] = x
	}
}

// roomy is a list with something behind it, in its spare room.
func roomy[T any](l []T, behind ...T) []T {
	return append(slices.Clone(l), behind...)[:len(l)]
}

// roomyModule is m with odd things behind each of its lists.
func roomyModule(m api.Module) api.Module {
	out := api.Module{Boxes: roomy(m.Boxes, api.BoxInfo{Type: 77, Cap: 77})}
	for _, u := range m.Units {
		u.Locals, u.Code = roomy(u.Locals, 77), roomy(u.Code, api.Instr{Op: 77})
		out.Units = append(out.Units, u)
	}
	out.Units = roomy(out.Units, api.Unit{Kind: 77})
	return out
}

// wide is a module with all its spare room, copied.
func wide(m api.Module) api.Module {
	out := api.Module{Boxes: slices.Clone(m.Boxes[:cap(m.Boxes)])}
	for _, u := range m.Units[:cap(m.Units)] {
		u.Locals, u.Code = slices.Clone(u.Locals[:cap(u.Locals)]), slices.Clone(u.Code[:cap(u.Code)])
		out.Units = append(out.Units, u)
	}
	return out
}

func sameModules(a, b api.Module) bool {
	return slices.Equal(a.Boxes, b.Boxes) && slices.EqualFunc(a.Units, b.Units, func(a, b api.Unit) bool {
		return a.Kind == b.Kind && a.Params == b.Params && a.Result == b.Result && a.Takes == b.Takes && slices.Equal(a.Locals, b.Locals) && slices.Equal(a.Code, b.Code)
	})
}

func scribbleModule(m api.Module) {
	for _, u := range m.Units {
		scribble(u.Code, api.Instr{Op: 77})
		scribble(u.Locals, 77)
	}
	scribble(m.Units, api.Unit{})
	scribble(m.Boxes, api.BoxInfo{})
}

// answers are those of all three calls.
type answers struct {
	w      api.World
	did    []api.Did
	rest   api.World
	err    api.Errno
	events []api.Event
}

func ask(m api.Module, l []api.Pick) (a answers) {
	a.w, a.did, _ = sched.Run(m, l)
	a.rest, a.err = sched.Settle(m, l, 50)
	a.events, _ = sched.Trace(m, l)
	return a
}

func (a answers) copied() answers {
	return answers{full(a.w), slices.Clone(a.did), full(a.rest), a.err, slices.Clone(a.events)}
}

func (a answers) same(b answers) bool {
	return same(a.w, b.w) && slices.Equal(a.did, b.did) && same(a.rest, b.rest) && a.err == b.err && slices.Equal(a.events, b.events)
}

// TestZ2ArgumentsAreOnlyRead: nor is the spare room behind them changed, or looked at.
func TestZ2ArgumentsAreOnlyRead(t *testing.T) {
	for _, p := range made(t, 91, 200) {
		want := ask(p.m, p.picks)
		m, l := roomyModule(p.m), roomy(p.picks, api.Pick{Task: 0, Quantum: 1}, api.Pick{})
		before, all := wide(m), slices.Clone(l[:cap(l)])
		if got := ask(m, l); !got.same(want) {
			t.Fatalf("%s\nwith spare room: %+v; want %+v", p.text, got, want)
		}
		if !sameModules(before, wide(m)) || !slices.Equal(all, l[:cap(l)]) {
			t.Fatalf("%s\n%v, %v becomes %v, %v", p.text, before, all, wide(m), l[:cap(l)])
		}
	}
}

// scribbleWorld writes into a world's lists one by one: those that were not written into yet must stay as they were.
func scribbleWorld(t *testing.T, w, want api.World) {
	t.Helper()
	sameOuts := func(a, b api.End) bool { return slices.Equal(a.Out, b.Out) }
	for i, e := range w.Tasks {
		if !slices.EqualFunc(w.Tasks[i:], want.Tasks[i:], sameOuts) {
			t.Fatalf("%+v becomes %+v", want, w)
		}
		scribble(e.Out, 77)
	}
	for i, l := range w.Boxes {
		if !slices.EqualFunc(w.Boxes[i:], want.Boxes[i:], slices.Equal) {
			t.Fatalf("%+v becomes %+v", want, w)
		}
		scribble(l, 77)
	}
	scribble(w.Tasks, api.End{State: 77})
	scribble(w.Boxes, nil)
}

// TestZ2AnswersAreTheCallers: each list of an answer is memory of its own, with its spare room; and nothing that was handed in is kept.
func TestZ2AnswersAreTheCallers(t *testing.T) {
	for _, p := range made(t, 92, 200) {
		m, l := roomyModule(p.m), roomy(p.picks, api.Pick{})
		got := ask(m, l)
		want := got.copied()
		scribbleModule(m)
		scribble(l, api.Pick{Task: 77})
		if !got.same(want) {
			t.Fatalf("%s\n%+v becomes %+v with what was handed in", p.text, want, got)
		}
		scribbleWorld(t, got.w, want.w)
		if !same(got.rest, want.rest) || !slices.Equal(got.did, want.did) {
			t.Fatalf("%s\n%+v becomes %+v with Run's world", p.text, want, got)
		}
		scribbleWorld(t, got.rest, want.rest)
		scribble(got.did, api.Did{Steps: 77})
		scribble(got.events, api.Event{Kind: 77})
		if again := ask(p.m, p.picks); !again.same(want) {
			t.Fatalf("%s\n%+v the second time; want %+v", p.text, again, want)
		}
	}
}

// TestZ3Empty: lists without entries are none.
func TestZ3Empty(t *testing.T) {
	empty := api.Module{Boxes: []api.BoxInfo{}, Units: []api.Unit{{Kind: api.DTask, Locals: []int{}, Code: code("end")}}}
	none := api.Module{Units: []api.Unit{{Kind: api.DTask, Code: code("end")}}}
	if !ask(empty, []api.Pick{}).same(ask(none, nil)) {
		t.Errorf("%+v and %+v", ask(empty, []api.Pick{}), ask(none, nil))
	}
}
