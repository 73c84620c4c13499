package graph_test

import (
	"slices"
	"strconv"
	"strings"
	"testing"

	"yieldshape/api"
	"yieldshape/graph"
	"yieldshape/syn"
)

// number is the type of numbers in modules.
const number = 1

func read(t *testing.T, text string) []api.Def {
	t.Helper()
	l, f := syn.Read(text)
	if f.Err != api.OK {
		t.Fatalf("Read(%q): %v", text, f)
	}
	return l
}

// edges are told by words: a box, who sends to it, who receives from it, and so on.
func edges(text string) []api.Edge {
	var out []api.Edge
	for e := range slices.Chunk(strings.Fields(text), 3) {
		out = append(out, api.Edge{Box: e[0], From: e[1], To: e[2]})
	}
	return out
}

func wantEdges(t *testing.T, text, want string) {
	t.Helper()
	wantEdgesOf(t, text, read(t, text), edges(want))
}

func wantEdgesOf(t *testing.T, what string, l []api.Def, want []api.Edge) {
	t.Helper()
	got, f := graph.Edges(l)
	if f != (api.Fault{}) || !slices.Equal(got, want) {
		t.Errorf("%s: Edges = %v, %v; want %v", what, got, f, want)
	}
}

func wantOrder(t *testing.T, text, order, left string) {
	t.Helper()
	wantOrderOf(t, text, read(t, text), strings.Fields(order), strings.Fields(left))
}

func wantOrderOf(t *testing.T, what string, l []api.Def, order, left []string) {
	t.Helper()
	o, r, f := graph.Order(l)
	if f != (api.Fault{}) || !slices.Equal(o, order) || !slices.Equal(r, left) {
		t.Errorf("%s: Order = %q, %q, %v; want %q, %q", what, o, r, f, order, left)
	}
}

// wantFault: what is wrong with a program Edges and Order say alike, and nothing beside it (Z4).
func wantFault(t *testing.T, what string, l []api.Def, err api.Errno, at int) {
	t.Helper()
	want := api.Fault{Err: err, At: at}
	if e, f := graph.Edges(l); f != want || len(e) > 0 {
		t.Errorf("%s: Edges = %v, %v; want nothing beside %v", what, e, f, want)
	}
	if o, r, f := graph.Order(l); f != want || len(o)+len(r) > 0 {
		t.Errorf("%s: Order = %q, %q, %v; want nothing beside %v", what, o, r, f, want)
	}
}

// words are those of the instructions, from OpPush on.
var words = strings.Fields("push truth load store drop neg not add sub mul div mod eq ne lt le gt ge and or jump else call ret end send recv out start resume yield alive")

// code reads instructions: words with commas between them, some with a number behind (A; of push N).
func code(text string) []api.Instr {
	var out []api.Instr
	for part := range strings.SplitSeq(text, ",") {
		f := strings.Fields(part)
		c := api.Instr{Op: 1 + slices.Index(words, f[0])}
		if c.Op == 0 {
			panic("no instruction: " + part)
		}
		if len(f) > 1 {
			n, err := strconv.Atoi(f[1])
			if err != nil {
				panic(err)
			}
			if c.Op == api.OpPush {
				c.N = int64(n)
			} else {
				c.A = n
			}
		}
		out = append(out, c)
	}
	return out
}

func task(text string) api.Unit { return api.Unit{Kind: api.DTask, Code: code(text)} }

// fn is a function of numbers, without parameters.
func fn(text string) api.Unit {
	return api.Unit{Kind: api.DFn, Result: number, Code: code(text)}
}

// generator takes and yields numbers, without parameters.
func generator(text string) api.Unit {
	return api.Unit{Kind: api.DGen, Result: number, Takes: number, Code: code(text)}
}

// module has three boxes of numbers, with one place each.
func module(units ...api.Unit) api.Module {
	return api.Module{Boxes: slices.Repeat([]api.BoxInfo{{Type: number, Cap: 1}}, 3), Units: units}
}

// wantWaits: whoever is picked first, however long, where all has come to rest the same ones are waited for.
func wantWaits(t *testing.T, what string, m api.Module, want ...int) {
	t.Helper()
	for _, picks := range [][]api.Pick{nil, {{Task: 0, Quantum: 1}, {Task: 1, Quantum: 3}, {Task: 9, Quantum: 1}}} {
		for _, quantum := range []int{1, 2, 50, api.MaxQuantum} {
			got, err := graph.Waits(m, picks, quantum)
			if err != api.OK || !slices.Equal(got, want) {
				t.Errorf("%s: Waits of %v by %d = %v, %v; want %v", what, picks, quantum, got, err, want)
			}
		}
	}
}

func wantErr(t *testing.T, what string, m api.Module, picks []api.Pick, quantum int, want api.Errno) {
	t.Helper()
	if got, err := graph.Waits(m, picks, quantum); err != want || len(got) > 0 {
		t.Errorf("%s: Waits of %d picks by %d = %v, %v; want nothing beside %v", what, len(picks), quantum, got, err, want)
	}
}
