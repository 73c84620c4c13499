package opt_test

import (
	"fmt"
	"math/rand"
	"slices"
	"strings"
	"testing"

	"yieldshape/api"
	"yieldshape/gen"
	"yieldshape/opt"
	"yieldshape/sched"
	"yieldshape/shelf"
	"yieldshape/syn"
	"yieldshape/vm"
)

func shorter(t *testing.T, m api.Module) api.Module {
	t.Helper()
	out, w := opt.Module(m)
	if w != (api.Where{}) {
		t.Fatalf("Module(%v): %v", m, w)
	}
	return out
}

func begins(l, start []int64) bool {
	return len(l) >= len(start) && slices.Equal(l[:len(start)], start)
}

// checkSolo: a task of m does by itself what it does with shorter code, in no more steps. It answers whether it came to rest.
func checkSolo(t *testing.T, m api.Module, task int, feeds [][]int64) bool {
	t.Helper()
	long, _ := vm.Solo(m, task, feeds, api.MaxSolo)
	short, err := vm.Solo(shorter(t, m), task, feeds, api.MaxSolo)
	if err != api.OK {
		t.Fatalf("%v: Solo: %v", m, err)
	}
	// Shorter code needs less room, and comes further with as many steps.
	further := long.State == api.Ready || long.Trap == api.TrapStack
	ok := begins(short.Out, long.Out)
	for n := range feeds {
		ok = ok && begins(short.Sent[n], long.Sent[n]) && short.Took[n] >= long.Took[n]
	}
	if !further {
		ok = ok && short.State == long.State && short.Box == long.Box && short.Trap == long.Trap && short.Steps <= long.Steps &&
			len(short.Out) == len(long.Out) && slices.Equal(short.Took, long.Took) && slices.EqualFunc(short.Sent, long.Sent, slices.Equal[[]int64])
	}
	if !ok {
		t.Fatalf("%v\ndoes %+v, with shorter code %+v", m, long, short)
	}
	return !further
}

// TestSoloDoesTheSame: code that was made by hand of all sorts.
func TestSoloDoesTheSame(t *testing.T) {
	k := maker{rand.New(rand.NewSource(5))}
	rest := 0
	for range 6000 {
		m := around(k.sense(6 + k.Intn(60)))
		if _, w := opt.Module(m); w != (api.Where{}) {
			continue
		}
		if checkSolo(t, m, 0, [][]int64{{3, 0, -1, 4, 5}, {1, 0, 0, 1, 1}}) {
			rest++
		}
	}
	if rest < 1500 {
		t.Errorf("%d come to rest: that tells too little", rest)
	}
}

// writer makes the texts of programs, with more constants than there mostly are.
type writer struct{ maker }

func (k writer) num(deep int) string {
	if deep == 0 {
		return k.one("0", "1", "2", "7", "3", "n")
	}
	x, y := k.num(deep-1), k.num(deep-1)
	return k.one("- ( "+x+" )", "f ( "+x+" )", "resume ( h , "+x+" )", "( "+x+" "+k.one("+", "-", "*", "+", "/", "%")+" "+y+" )", "( "+x+" - "+y+" )", x)
}

func (k writer) truth(deep int) string {
	if deep == 0 {
		return k.one("true", "false", "( n < 4 )")
	}
	x, y := k.truth(deep-1), k.truth(deep-1)
	return k.one("not ( "+x+" )", "( "+x+" "+k.one("and", "or", "==", "!=")+" "+y+" )", "( "+k.num(1)+" "+k.one("<", "<=", ">", ">=", "==", "!=")+" "+k.num(1)+" )", x)
}

// stats are some statements; say is where their words go.
func (k writer) stats(deep int, say string) string {
	var out strings.Builder
	for range 1 + k.Intn(3) {
		switch k.Intn(5 + min(deep, 1)*4) {
		case 0:
			out.WriteString("do " + k.one(k.num(1), k.truth(1), "h") + " ; ")
		case 1, 2:
			out.WriteString(say + " " + k.num(2) + " ; ")
		case 3, 4:
			out.WriteString("n = " + k.num(2) + " ; ")
		case 5, 6:
			fmt.Fprintf(&out, "if %s { %s} else { %s} ", k.truth(2), k.stats(deep-1, say), k.stats(deep-1, say))
		case 7:
			fmt.Fprintf(&out, "while %s { %s} ", k.truth(2), k.stats(deep-1, say))
		default:
			fmt.Fprintf(&out, "while n < %s { %s n = n + 1 ; } ", k.num(0), k.stats(deep-1, say))
		}
	}
	return out.String()
}

func (k writer) program() string {
	const f = "fn f ( a num ) num { if false { return 1 ; } if a > 2 + 3 { return a - 1 * 2 ; } return f ( a + 3 ) ; } "
	const g = "gen g ( ) takes num yields num { let i = 0 ; while true and not false { do 1 ; i = yield ( i + 2 * 3 ) ; } } "
	first := "task a { let n = 1 - 1 ; let h = start g ( ) ; " + k.stats(2, "send b") + "} "
	second := "task c { let h = start g ( ) ; while not ( 2 < 1 ) { let n = recv ( b ) ; " + k.stats(1, "out") + "} } "
	return "box b num 2 ; " + f + g + first + second
}

// TestProgramsDoTheSame: what is compiled does the same with shorter code, one task by itself, and all as they are picked.
func TestProgramsDoTheSame(t *testing.T) {
	k := writer{maker{rand.New(rand.NewSource(50))}}
	rest, settled := 0, 0
	for range 1500 {
		text := k.program()
		l, f := syn.Read(text)
		if f.Err != api.OK {
			t.Fatalf("%s: Read: %v", text, f)
		}
		m, f := gen.Compile(l)
		if f.Err != api.OK {
			t.Fatalf("%s: Compile: %v", text, f)
		}
		if checkSolo(t, m, 0, [][]int64{nil}) && checkSolo(t, m, 1, [][]int64{{4, 5, 0, -7}}) {
			rest++
		}
		long, err := sched.Settle(m, nil, 50)
		if err != api.OK || slices.ContainsFunc(long.Tasks, func(e api.End) bool { return e.Trap == api.TrapStack }) {
			continue
		}
		settled++
		wantWorld(t, text, shorter(t, m), long)
	}
	if rest < 300 || settled < 300 {
		t.Errorf("%d and %d come to rest: that tells too little", rest, settled)
	}
}

// wantWorld: m comes to rest as that world, in no more steps.
func wantWorld(t *testing.T, what string, m api.Module, want api.World) {
	t.Helper()
	w, err := sched.Settle(m, nil, 100)
	sameEnd := func(a, b api.End) bool {
		return a.State == b.State && a.Box == b.Box && a.Trap == b.Trap && slices.Equal(a.Out, b.Out)
	}
	if err != api.OK || w.Steps > want.Steps || !slices.EqualFunc(w.Tasks, want.Tasks, sameEnd) || !slices.EqualFunc(w.Boxes, want.Boxes, slices.Equal[[]int64]) {
		t.Errorf("%s: with shorter code %+v, %v; want %+v", what, w, err, want)
	}
}

// TestShelf: the programs that stand ready.
func TestShelf(t *testing.T) {
	r := rand.New(rand.NewSource(6))
	less := 0
	for _, name := range shelf.Names() {
		m, _ := shelf.Module(name)
		for n, u := range m.Units {
			left := shorter(t, m).Units[n].Code
			if want := oracle(r, u.Code); !slices.Equal(left, want) {
				t.Errorf("%s, unit %d: %s; want %s", name, n, textOf(left), textOf(want))
			}
			less += len(u.Code) - len(left)
		}
		if w, err := shelf.Rest(name); err == api.OK {
			wantWorld(t, name, shorter(t, m), w)
		}
	}
	if less == 0 {
		t.Error("nothing is shorter")
	}
}
