package vm_test

import (
	"slices"
	"testing"

	"yieldshape/api"
	"yieldshape/vm"
)

// scribble writes into a list and its spare room.
func scribble[T any](l []T, x T) {
	for i := range l[:cap(l)] {
		l[:cap(l)][i] = x
	}
}

// roomy is a list with something behind it, in its spare room.
func roomy[T any](l []T, behind ...T) []T {
	return append(slices.Clone(l), behind...)[:len(l)]
}

// roomyModule is m with odd things behind each of its lists.
func roomyModule(m api.Module) api.Module {
	out := api.Module{Boxes: roomy(m.Boxes, api.BoxInfo{Type: 77, Cap: 77})}
	for _, u := range m.Units {
		u.Locals, u.Code = roomy(u.Locals, 77), roomy(u.Code, api.Instr{Op: 77})
		out.Units = append(out.Units, u)
	}
	out.Units = roomy(out.Units, api.Unit{Kind: 77})
	return out
}

// roomyFeeds are feeds with odd words, and an odd feed, behind them.
func roomyFeeds(feeds [][]int64) [][]int64 {
	var out [][]int64
	for _, l := range feeds {
		out = append(out, roomy(l, 77, 78))
	}
	return roomy(out, []int64{79})
}

// wide is a module and feeds with all their spare room, copied.
func wide(m api.Module, feeds [][]int64) (api.Module, [][]int64) {
	out := api.Module{Boxes: slices.Clone(m.Boxes[:cap(m.Boxes)])}
	for _, u := range m.Units[:cap(m.Units)] {
		u.Locals, u.Code = slices.Clone(u.Locals[:cap(u.Locals)]), slices.Clone(u.Code[:cap(u.Code)])
		out.Units = append(out.Units, u)
	}
	var all [][]int64
	for _, l := range feeds[:cap(feeds)] {
		all = append(all, slices.Clone(l[:cap(l)]))
	}
	return out, all
}

func sameModules(a, b api.Module) bool {
	return slices.Equal(a.Boxes, b.Boxes) && slices.EqualFunc(a.Units, b.Units, func(a, b api.Unit) bool {
		return a.Kind == b.Kind && a.Params == b.Params && a.Result == b.Result && a.Takes == b.Takes && slices.Equal(a.Locals, b.Locals) && slices.Equal(a.Code, b.Code)
	})
}

// TestZ2ArgumentsAreOnlyRead: nor is the spare room behind them changed, or looked at.
func TestZ2ArgumentsAreOnlyRead(t *testing.T) {
	for _, p := range made(t, 91, 300) {
		want, _ := vm.Solo(p.m, 0, p.feeds, 600)
		m, feeds := roomyModule(p.m), roomyFeeds(p.feeds)
		before, fed := wide(m, feeds)
		wantReport(t, p.text, m, 0, feeds, 600, want)
		behind, left := wide(m, feeds)
		if !sameModules(before, behind) || !slices.EqualFunc(fed, left, slices.Equal) {
			t.Fatalf("%s: %v, %v becomes %v, %v", p.text, before, fed, behind, left)
		}
	}
}

func scribbleAll(m api.Module, feeds [][]int64) {
	for _, u := range m.Units {
		scribble(u.Code, api.Instr{Op: 77})
		scribble(u.Locals, 77)
	}
	for _, l := range feeds {
		scribble(l, 77)
	}
	scribble(m.Units, api.Unit{})
	scribble(m.Boxes, api.BoxInfo{})
	scribble(feeds, nil)
}

// TestZ2AnswersAreTheCallers: each list of an answer is memory of its own, with its spare room; and nothing that was handed in is kept.
func TestZ2AnswersAreTheCallers(t *testing.T) {
	for _, p := range made(t, 92, 300) {
		m, feeds := roomyModule(p.m), roomyFeeds(p.feeds)
		r, _ := vm.Solo(m, 0, feeds, 600)
		want := full(r)
		scribbleAll(m, feeds)
		if !same(r, want) {
			t.Fatalf("%s: %v becomes %v with what was handed in", p.text, want, r)
		}
		for i := range r.Sent {
			if !slices.EqualFunc(r.Sent[i:], want.Sent[i:], slices.Equal) {
				t.Fatalf("%s: %v becomes %v", p.text, want.Sent, r.Sent)
			}
			scribble(r.Sent[i], 77)
		}
		scribble(r.Sent, nil)
		if !slices.Equal(r.Out, want.Out) || !slices.Equal(r.Took, want.Took) {
			t.Fatalf("%s: %v becomes %v with what was sent", p.text, want, r)
		}
		scribble(r.Out, 77)
		scribble(r.Took, 77)
		wantReport(t, p.text, p.m, 0, p.feeds, 600, want)
	}
}
