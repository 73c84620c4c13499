package shelf_test

import (
	"reflect"
	"slices"
	"testing"

	"yieldshape/api"
	"yieldshape/shelf"
	"yieldshape/syn"
)

// names are those of the document, rising.
var names = []string{
	"average", "bits", "changes", "collatz", "dedupe", "digits", "double", "evens", "fact", "fib", "gate", "gcd", "greatest",
	"merge", "pairs", "pingpong", "power", "prime", "rounds", "sieve", "sums", "turns", "until", "window", "zip",
}

// nobodies are names that no program has.
var nobodies = []string{
	"", "nobody", "Double", "DOUBLE", "doubl", "doublee", " double", "double ", "double\n", "double\x00", "\x00", "\xff",
	"average bits", "L1", "main", "mean", "in", "zipp", "zzz", "0", "öl",
}

func feeds(l ...[]int64) [][]int64 { return l }

func module(t *testing.T, name string) api.Module {
	t.Helper()
	m, err := shelf.Module(name)
	if err != api.OK {
		t.Fatalf("Module(%q): %v", name, err)
	}
	return m
}

func read(t *testing.T, name string) []api.Def {
	t.Helper()
	text, err := shelf.Text(name)
	if err != api.OK {
		t.Fatalf("Text(%q): %v", name, err)
	}
	l, f := syn.Read(text)
	if f != (api.Fault{}) {
		t.Fatalf("Read(%q): %v", text, f)
	}
	return l
}

// fullLists are l with lists that are not nil, so that they may be held against each other (Z3).
func fullLists(l [][]int64) [][]int64 {
	out := [][]int64{}
	for _, words := range l {
		out = append(out, append([]int64{}, words...))
	}
	return out
}

func fullReport(r api.Report) api.Report {
	r.Out, r.Took, r.Sent = append([]int64{}, r.Out...), append([]int{}, r.Took...), fullLists(r.Sent)
	return r
}

func fullWorld(w api.World) api.World {
	out := api.World{Tasks: []api.End{}, Boxes: fullLists(w.Boxes), Steps: w.Steps}
	for _, e := range w.Tasks {
		e.Out = append([]int64{}, e.Out...)
		out.Tasks = append(out.Tasks, e)
	}
	return out
}

func fullModule(m api.Module) api.Module {
	out := api.Module{Boxes: append([]api.BoxInfo{}, m.Boxes...), Units: []api.Unit{}}
	for _, u := range m.Units {
		u.Locals, u.Code = append([]int{}, u.Locals...), append([]api.Instr{}, u.Code...)
		out.Units = append(out.Units, u)
	}
	return out
}

func sameReports(a, b api.Report) bool { return reflect.DeepEqual(fullReport(a), fullReport(b)) }

func sameWorlds(a, b api.World) bool { return reflect.DeepEqual(fullWorld(a), fullWorld(b)) }

func sameModules(a, b api.Module) bool { return reflect.DeepEqual(fullModule(a), fullModule(b)) }

func wantReport(t *testing.T, name string, fed [][]int64, want api.Report) {
	t.Helper()
	if r, err := shelf.Ask(name, fed); err != api.OK || !sameReports(r, want) {
		t.Errorf("Ask(%q, %.200v) = %+v, %v; want %+v", name, fed, r, err, want)
	}
}

// wantOut: fed so, a program puts that out, and waits for more of its first box then.
func wantOut(t *testing.T, name string, fed [][]int64, want ...int64) {
	t.Helper()
	r, err := shelf.Ask(name, fed)
	if err != api.OK || r.State != api.Waiting || r.Box != 0 || r.Trap != 0 || !slices.Equal(r.Out, want) {
		t.Errorf("Ask(%q, %v) = %+v, %v; want it waiting, with %v out", name, fed, r, err, want)
	}
}

// wantErr: beside an error every other result is zero (Z4).
func wantErr(t *testing.T, name string, fed [][]int64, want api.Errno) {
	t.Helper()
	if r, err := shelf.Ask(name, fed); err != want || !reflect.DeepEqual(r, api.Report{}) {
		t.Errorf("Ask(%q, %v) = %+v, %v; want nothing beside %v", name, fed, r, err, want)
	}
}
