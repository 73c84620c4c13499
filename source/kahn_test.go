package source_test

import (
	"fmt"
	"math/rand"
	"slices"
	"strings"
	"testing"

	"yieldshape/api"
	"yieldshape/sema"
	"yieldshape/source"
)

// kinds answers which definitions are of that kind, as they stand.
func kinds(l []api.Def, kind int) []int {
	var out []int
	for i, d := range l {
		if d.Kind == kind {
			out = append(out, i)
		}
	}
	return out
}

// TestKahnWhateverOrder: definitions that stand in another order come to the same world, each task and each box in its new place.
func TestKahnWhateverOrder(t *testing.T) {
	r := rand.New(rand.NewSource(1974))
	for _, p := range made(t, 1974, 500) {
		want, wantFault := source.Play(p.defs)
		order := r.Perm(len(p.defs)) // which one stands in a place now
		var l []api.Def
		for _, n := range order {
			l = append(l, p.defs[n])
		}
		w, f := source.Play(l)
		if f != wantFault || w.Steps != want.Steps || len(w.Tasks) != len(want.Tasks) || len(w.Boxes) != len(want.Boxes) {
			t.Fatalf("%s\n%+v, %v; in the order %v %+v, %v", text(p.defs), want, wantFault, order, w, f)
		}
		if f.Err != api.OK {
			continue
		}
		back := api.World{Tasks: make([]api.End, len(w.Tasks)), Boxes: make([][]int64, len(w.Boxes)), Steps: w.Steps}
		boxes, oldBoxes := kinds(l, api.DBox), kinds(p.defs, api.DBox)
		old := func(n int) int { return slices.Index(oldBoxes, order[boxes[n]]) }
		for n := range w.Boxes {
			back.Boxes[old(n)] = w.Boxes[n]
		}
		oldTasks := kinds(p.defs, api.DTask)
		for n, i := range kinds(l, api.DTask) {
			e := w.Tasks[n]
			if e.State == api.Sending || e.State == api.Waiting {
				e.Box = old(e.Box)
			}
			back.Tasks[slices.Index(oldTasks, order[i])] = e
		}
		if !same(back, want) {
			t.Fatalf("%s\n%+v; in the order %v %+v", text(p.defs), want, order, w)
		}
	}
}

// renamed is a program whose names all have something behind them.
func renamed(t *testing.T, l []api.Def, behind string) []api.Def {
	t.Helper()
	words := strings.Fields(text(l))
	names := map[string]string{}
	for i, w := range words[:len(words)-1] {
		if slices.Contains([]string{"box", "fn", "gen", "task"}, w) {
			names[words[i+1]] = words[i+1] + behind
		}
	}
	for i, w := range words {
		if other, ok := names[w]; ok {
			words[i] = other
		}
	}
	return read(t, strings.Join(words, " "))
}

// TestWhoDoesNotSpeak: two programs beside each other do what each does by itself.
func TestWhoDoesNotSpeak(t *testing.T) {
	all := made(t, 15, 700)
	beside := 0
	for i := 0; i+1 < len(all); i += 2 {
		a, b := all[i].defs, all[i+1].defs
		if len(text(a)) > 6000 || len(text(b)) > 5000 || len(a)+len(b) > api.MaxDefs {
			continue
		}
		b = renamed(t, b, "x")
		first, f := source.Play(a)
		second, g := source.Play(b)
		l := slices.Concat(a, b)
		if f.Err != api.OK || g.Err != api.OK || sema.Check(l).Err != api.OK {
			continue
		}
		for n, e := range second.Tasks {
			if e.State == api.Sending || e.State == api.Waiting {
				second.Tasks[n].Box += len(first.Boxes)
			}
		}
		want := api.World{Tasks: slices.Concat(first.Tasks, second.Tasks), Boxes: slices.Concat(first.Boxes, second.Boxes), Steps: first.Steps + second.Steps}
		if want.Steps > api.MaxWork {
			wantFaultOf(t, "both", l, fault(api.ErrSteps, 0))
			continue
		}
		beside++
		if w, f := source.Play(l); f != (api.Fault{}) || !same(w, want) {
			t.Fatalf("%s\n%+v, %v; want %+v", fmt.Sprint(text(a), "\n", text(b)), w, f, want)
		}
	}
	if beside < 100 {
		t.Errorf("%d stand beside each other: that tells too little", beside)
	}
}

// TestWiderBoxesSayNoLess: what tasks put out is the beginning of what they do with more places.
func TestWiderBoxesSayNoLess(t *testing.T) {
	r := rand.New(rand.NewSource(20))
	more := 0
	for _, p := range made(t, 20, 800) {
		slim, f := source.Play(p.defs)
		l := slices.Clone(p.defs)
		for i := range l {
			l[i].Cap += r.Intn(3)
		}
		w, g := source.Play(l)
		if f.Err != api.OK || g.Err != api.OK {
			continue
		}
		for n, e := range slim.Tasks {
			if out := w.Tasks[n].Out; len(out) < len(e.Out) || !slices.Equal(out[:len(e.Out)], e.Out) {
				t.Fatalf("%s\ntask %d puts %v out, with wider boxes %v", text(p.defs), n, e.Out, out)
			}
		}
		if w.Steps > slim.Steps {
			more++
		}
	}
	if more < 20 {
		t.Errorf("%d do more with wider boxes: that tells too little", more)
	}
}
