package shelf_test

import (
	"slices"
	"testing"

	"yieldshape/api"
	"yieldshape/shelf"
)

// scribble writes into a list and its spare room.
func scribble[T any](l []T, x T) {
	for i := range l[:cap(l)] {
		l[:cap(l)][i] = x
	}
}

// scribbleLists writes into lists one by one: those that were not written into yet must stay as they were.
func scribbleLists[T comparable](t *testing.T, x T, lists ...[]T) {
	t.Helper()
	var want [][]T
	for _, l := range lists {
		want = append(want, slices.Clone(l))
	}
	for i, l := range lists {
		if !slices.EqualFunc(lists[i:], want[i:], slices.Equal) {
			t.Fatalf("%v becomes %v", want, lists)
		}
		scribble(l, x)
	}
}

// roomy is a list with something behind it, in its spare room.
func roomy[T any](l []T, behind ...T) []T {
	return append(slices.Clone(l), behind...)[:len(l)]
}

// some are feeds of so many boxes, with odd things behind them.
func some(boxes int) [][]int64 {
	out := feeds(roomy([]int64{6, 6, 3, 0, 1}, 77, 78), roomy([]int64{1, 0, 1}, 79), roomy([]int64{1}, 80))
	return roomy(out[:boxes:boxes], []int64{81})
}

// wide are feeds with all their spare room, copied.
func wide(l [][]int64) [][]int64 {
	var out [][]int64
	for _, words := range l[:cap(l)] {
		out = append(out, slices.Clone(words[:cap(words)]))
	}
	return out
}

// TestZ2FeedsAreOnlyRead: nor is the spare room behind them changed, or looked at; and nothing of them is kept.
func TestZ2FeedsAreOnlyRead(t *testing.T) {
	for _, name := range names {
		fed := some(len(module(t, name).Boxes))
		want, err := shelf.Ask(name, fullLists(fed))
		if err != api.OK {
			t.Fatalf("Ask(%q, %v): %v", name, fed, err)
		}
		before := wide(fed)
		got, err := shelf.Ask(name, fed)
		if err != api.OK || !sameReports(got, want) {
			t.Errorf("%s, with spare room: %+v, %v; want %+v", name, got, err, want)
		}
		if !slices.EqualFunc(before, wide(fed), slices.Equal) {
			t.Errorf("%s: %v becomes %v", name, before, wide(fed))
		}
		for _, l := range fed {
			scribble(l, 77)
		}
		scribble(fed, nil)
		if !sameReports(got, want) {
			t.Errorf("%s: %+v becomes %+v with what was handed in", name, want, got)
		}
	}
}

// TestZ2NamesAreTheCallers: the next ones are there again.
func TestZ2NamesAreTheCallers(t *testing.T) {
	scribble(shelf.Names(), "gone")
	if got := shelf.Names(); !slices.Equal(got, names) {
		t.Errorf("Names() = %q the second time", got)
	}
}

func TestZ2ModulesAreTheCallers(t *testing.T) {
	for _, name := range names {
		m := module(t, name)
		want := fullModule(m)
		var locals [][]int
		var codes [][]api.Instr
		for _, u := range m.Units {
			locals, codes = append(locals, u.Locals), append(codes, u.Code)
		}
		scribbleLists(t, 77, locals...)
		scribbleLists(t, api.Instr{Op: 77}, codes...)
		scribble(m.Units, api.Unit{Kind: 77})
		scribble(m.Boxes, api.BoxInfo{Type: 77})
		if again := module(t, name); !sameModules(again, want) {
			t.Errorf("Module(%q) = %v the second time; want %v", name, again, want)
		}
	}
}

func TestZ2ReportsAreTheCallers(t *testing.T) {
	for _, name := range names {
		fed := some(len(module(t, name).Boxes))
		r, _ := shelf.Ask(name, fed)
		want := fullReport(r)
		scribbleLists(t, 77, append([][]int64{r.Out}, r.Sent...)...)
		scribble(r.Took, 77)
		scribble(r.Sent, nil)
		wantReport(t, name, fed, want)
	}
}

func TestZ2WorldsAreTheCallers(t *testing.T) {
	for _, name := range names {
		w := rest(t, name)
		want := fullWorld(w)
		lists := slices.Clone(w.Boxes)
		for _, e := range w.Tasks {
			lists = append(lists, e.Out)
		}
		scribbleLists(t, 77, lists...)
		scribble(w.Tasks, api.End{State: 77})
		scribble(w.Boxes, nil)
		wantRest(t, name, want)
	}
}

// TestZ3Empty: a feed without words is none; and no feeds are none.
func TestZ3Empty(t *testing.T) {
	for _, name := range names {
		boxes := len(module(t, name).Boxes)
		want, _ := shelf.Ask(name, make([][]int64, boxes))
		wantReport(t, name, fullLists(make([][]int64, boxes)), want)
		wantErr(t, name, [][]int64{}, api.ErrMany)
		wantErr(t, name, nil, api.ErrMany)
	}
}
