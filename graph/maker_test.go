package graph_test

import (
	"fmt"
	"math/rand"
	"strings"
	"testing"

	"yieldshape/api"
	"yieldshape/syn"
)

// What the body of a definition does with another one.
const (
	sends    = api.OpSend
	receives = api.OpRecv
	reaches  = api.OpCall // calls or starts it
)

// said is what one does with the other, by their numbers.
type said struct{ who, what, whom int }

// program is one that was made, and what is said in it.
type program struct {
	text  string
	defs  []api.Def
	notes map[said]int
}

// maker makes programs of which each function and each generator belongs to a task, and so does each end of a box; mostly.
type maker struct {
	*rand.Rand
	kinds       []int
	home        []int // of a function or a generator; of a task itself; of a box who sends to it
	reader      []int // of a box who receives from it
	here, fresh int
	notes       map[said]int
}

func newMaker(r *rand.Rand) *maker {
	k := &maker{Rand: r, kinds: []int{api.DTask}, notes: map[said]int{}}
	for range 4 + k.Intn(14) {
		k.kinds = append(k.kinds, []int{api.DBox, api.DBox, api.DBox, api.DTask, api.DTask, api.DFn, api.DGen}[k.Intn(7)])
	}
	k.Shuffle(len(k.kinds), func(i, j int) { k.kinds[i], k.kinds[j] = k.kinds[j], k.kinds[i] })
	onward := k.Intn(2) == 0 // boxes go from tasks to later ones, or to ahead ones: there is no circle then
	back := k.Intn(2) == 0
	for n, kind := range k.kinds {
		a, b := k.one(api.DTask, true), k.one(api.DTask, true)
		if onward && (a > b) != back {
			a, b = b, a
		}
		if onward && a == b {
			b = -1
		}
		if kind == api.DTask {
			a = n
		}
		k.home, k.reader = append(k.home, a), append(k.reader, b)
	}
	return k
}

// one answers the number of a definition of that kind, -1 if there is none: any one, or one that belongs here.
func (k *maker) one(kind int, any bool) int {
	for _, n := range k.Perm(len(k.kinds)) {
		if k.kinds[n] == kind && (any || k.home[n] == k.home[k.here]) {
			return n
		}
	}
	return -1
}

// read answers the number of a box from which somebody here receives; -1, if there is none.
func (k *maker) read() int {
	for _, n := range k.Perm(len(k.kinds)) {
		if k.kinds[n] == api.DBox && k.reader[n] == k.home[k.here] {
			return n
		}
	}
	return -1
}

func (k *maker) name(n int) string { return fmt.Sprint(" bfgt"[k.kinds[n]:][:1], n) }

func (k *maker) variable() string {
	k.fresh++
	return fmt.Sprint("v", k.fresh)
}

func (k *maker) note(what, whom int) string {
	k.notes[said{k.here, what, whom}]++
	return k.name(whom)
}

func (k *maker) program() string {
	var out strings.Builder
	for n, kind := range k.kinds {
		k.here = n
		switch kind {
		case api.DBox:
			fmt.Fprintf(&out, "box %s num %d ; ", k.name(n), 1+k.Intn(3))
		case api.DFn:
			fmt.Fprintf(&out, "fn %s ( ) num { %sreturn 1 ; } ", k.name(n), k.block(1, k.Intn(3)))
		case api.DGen:
			fmt.Fprintf(&out, "gen %s ( ) takes num yields num { %s} ", k.name(n), k.block(1, k.Intn(4)))
		case api.DTask:
			fmt.Fprintf(&out, "task %s { %s} ", k.name(n), k.block(2, k.Intn(9)))
		}
	}
	return out.String()
}

func (k *maker) block(deep, size int) string {
	var out strings.Builder
	for range size {
		out.WriteString(k.stat(deep))
	}
	return out.String()
}

func (k *maker) stat(deep int) string {
	any := k.Intn(60) == 0
	switch n := k.Intn(14); {
	case n < 4:
		if box := k.one(api.DBox, any); box >= 0 {
			return "send " + k.note(sends, box) + " 1 ; "
		}
	case n < 8:
		box := k.read()
		if any {
			box = k.one(api.DBox, true)
		}
		if box >= 0 {
			return "out recv ( " + k.note(receives, box) + " ) ; "
		}
	case n < 10:
		if f := k.one(api.DFn, any); f >= 0 {
			return "do " + k.note(reaches, f) + " ( ) ; "
		}
	case n < 11:
		if g := k.one(api.DGen, any); g >= 0 {
			v := k.variable()
			return "let " + v + " = start " + k.note(reaches, g) + " ( ) ; do resume ( " + v + " , 1 ) ; "
		}
	case n < 13 && deep > 0:
		return k.nest(deep - 1)
	case k.kinds[k.here] == api.DGen:
		return "do yield ( 1 ) ; "
	}
	return "out 1 ; "
}

// nest is a block that is come to once, many times, or never.
func (k *maker) nest(deep int) string {
	i := k.variable()
	switch k.Intn(4) {
	case 0:
		return "if false { " + k.block(deep, 2) + "} "
	case 1:
		return "while true { " + k.block(deep, 2) + "} "
	case 2:
		return "if true { " + k.block(deep, 2) + "} "
	}
	return "let " + i + " = 0 ; while " + i + " < 5 { " + k.block(deep, 2) + i + " = " + i + " + 1 ; } "
}

// made answers so many programs.
func made(t *testing.T, seed int64, many int) []program {
	t.Helper()
	r := rand.New(rand.NewSource(seed))
	var out []program
	for range many {
		k := newMaker(r)
		p := program{text: k.program(), notes: k.notes}
		l, f := syn.Read(p.text)
		if f.Err != api.OK {
			t.Fatalf("%v: %s", f, p.text)
		}
		p.defs = l
		out = append(out, p)
	}
	return out
}
