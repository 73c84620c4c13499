package vm_test

import (
	"fmt"
	"math/rand"
	"strings"
	"testing"

	"yieldshape/api"
	"yieldshape/gen"
	"yieldshape/syn"
)

// heads are what made programs have, with bodies between: generators get each other, functions get generators.
var heads = []struct{ name, head, params, result, takes string }{
	{"f", "fn f ( a num , b bool ) num", "a num b bool", "num", ""},
	{"e", "fn e ( n num , h g ) bool", "n num h g", "bool", ""},
	{"r", "fn r ( n num ) num", "n num", "num", ""},
	{"g", "gen g ( n num ) takes bool yields num", "n num", "num", "bool"},
	{"k", "gen k ( h g , b bool ) takes num yields bool", "h g b bool", "bool", "num"},
	{"l", "gen l ( h g , o k ) takes num yields num", "h g o k", "num", "num"},
	{"t", "task t", "", "", ""},
}

// maker makes the texts of programs, mostly of such as do something for a while.
type maker struct {
	*rand.Rand
	here   int      // whose body is made
	stands []string // names and types, by turns, of what stands for something
	fresh  int
}

func (k *maker) program() string {
	var out strings.Builder
	out.WriteString("box bn num 3 ; box bb bool 2 ; box bo num 1 ; ")
	for i, h := range heads {
		k.here, k.stands = i, strings.Fields(h.params)
		out.WriteString(h.head + " { ")
		if h.name == "t" { // one of each to begin with
			out.WriteString("let g0 = start g ( 3 ) ; let k0 = start k ( g0 , true ) ; let l0 = start l ( g0 , k0 ) ; ")
			k.stands = strings.Fields("g0 g k0 k l0 l")
		}
		out.WriteString(k.block(2, 3+k.Intn(4)) + "} ")
	}
	return out.String()
}

func (k *maker) block(deep, size int) string {
	before := len(k.stands)
	var out strings.Builder
	for range size {
		out.WriteString(k.stat(deep))
	}
	k.stands = k.stands[:before]
	return out.String()
}

func (k *maker) one(l ...string) string { return l[k.Intn(len(l))] }

func (k *maker) name() string {
	k.fresh++
	return fmt.Sprint("v", k.fresh)
}

func (k *maker) stat(deep int) string {
	h := heads[k.here]
	switch k.Intn(11) {
	case 0, 1:
		t := k.one("num", "bool", "num", "bool", "num", "bool", "g", "k")
		x, name := k.expr(t, 2), k.name()
		k.stands = append(k.stands, name, t)
		return "let " + name + " = " + x + " ; "
	case 2:
		if n := len(k.stands) / 2; n > 0 {
			i := 2 * k.Intn(n)
			return k.stands[i] + " = " + k.expr(k.stands[i+1], 2) + " ; "
		}
	case 3:
		if deep > 0 {
			return "if " + k.expr("bool", 2) + " { " + k.block(deep-1, k.Intn(3)) + "} else { " + k.block(deep-1, k.Intn(3)) + "} "
		}
	case 4:
		if deep > 0 {
			i := k.name()
			return fmt.Sprintf("let %s = 0 ; while %s < %s { %s %s = %s + 1 ; } ", i, i, k.one("3", "9", "40", k.expr("num", 1)), k.block(deep-1, 1+k.Intn(2)), i, i)
		}
	case 5:
		if k.Intn(6) == 0 && h.result != "" && h.takes == "" {
			return "return " + k.expr(h.result, 2) + " ; "
		}
		if k.Intn(6) == 0 && h.takes != "" {
			return "stop ; "
		}
	case 6:
		return "send " + k.one("bn", "bo") + " " + k.expr("num", 2) + " ; "
	case 7:
		return "send bb " + k.expr("bool", 2) + " ; "
	case 8, 9:
		return "do " + k.expr(k.one("num", "bool", "num", "bool", "g", "l"), 2) + " ; "
	}
	return "out " + k.expr(k.one("num", "bool"), 3) + " ; "
}

// expr makes an expression of a type: num, bool, or a generator's name.
func (k *maker) expr(t string, deep int) string {
	if n := len(k.stands) / 2; n > 0 && k.Intn(5) < 2 {
		if i := 2 * k.Intn(n); k.stands[i+1] == t {
			return k.stands[i]
		}
	}
	switch t {
	case "num":
		return k.num(deep)
	case "bool":
		return k.truth(deep)
	}
	for i := 0; i < len(k.stands); i += 2 { // else too many are started too soon
		if k.stands[i+1] == t && k.Intn(8) > 0 {
			return k.stands[i]
		}
	}
	switch t {
	case "g":
		return "start g ( " + k.expr("num", deep-1) + " )"
	case "k":
		return "start k ( " + k.expr("g", deep-1) + " , " + k.expr("bool", deep-1) + " )"
	}
	return "start l ( " + k.expr("g", deep-1) + " , " + k.expr("k", deep-1) + " )"
}

// has answers what was thrown, or, mostly, 99, if that asks for a generator of which none stands here: else tasks would do little but start too many.
func (k *maker) has(thrown int, asks map[int]string) int {
	for i := 1; i < len(k.stands); i += 2 {
		if k.stands[i] == asks[thrown] {
			return thrown
		}
	}
	if asks[thrown] != "" && k.Intn(8) > 0 {
		return 99
	}
	return thrown
}

func (k *maker) num(deep int) string {
	if deep <= 0 {
		return k.one("0", "1", "2", "3", "7", "100", "123456789012345", "recv ( bn )")
	}
	x := func(t string) string { return k.expr(t, deep-1) }
	if heads[k.here].takes == "num" && k.Intn(3) == 0 {
		return "yield ( " + x(heads[k.here].result) + " )"
	}
	switch k.has(k.Intn(12), map[int]string{2: "g", 3: "g", 4: "l"}) {
	case 0:
		return "f ( " + x("num") + " , " + x("bool") + " )"
	case 1:
		return "r ( " + x("num") + " - 1 )"
	case 2, 3:
		return "resume ( " + x("g") + " , " + x("bool") + " )"
	case 4:
		return "resume ( " + x("l") + " , " + x("num") + " )"
	case 5:
		return "recv ( " + k.one("bn", "bo") + " )"
	case 6:
		return "- ( " + x("num") + " )"
	case 7:
		return "( " + x("num") + " " + k.one("/", "%") + " " + k.one("3", "- 2", "7", "( "+x("num")+" * 2 + 1 )", x("num")) + " )"
	}
	return "( " + x("num") + " " + k.one("+", "-", "*") + " " + x("num") + " )"
}

func (k *maker) truth(deep int) string {
	if deep <= 0 {
		return k.one("true", "false", "recv ( bb )")
	}
	x := func(t string) string { return k.expr(t, deep-1) }
	if heads[k.here].takes == "bool" && k.Intn(3) == 0 {
		return "yield ( " + x(heads[k.here].result) + " )"
	}
	switch k.has(k.Intn(9), map[int]string{0: "g", 1: "k", 2: "k"}) {
	case 0:
		return "e ( " + x("num") + " , " + x("g") + " )"
	case 1:
		return "resume ( " + x("k") + " , " + x("num") + " )"
	case 2:
		return "alive ( " + x(k.one("g", "k", "l")) + " )"
	case 3:
		return "recv ( bb )"
	case 4:
		return "not " + x("bool")
	case 5, 6:
		return "( " + x("num") + " " + k.one("==", "!=", "<", "<=", ">", ">=") + " " + x("num") + " )"
	}
	return "( " + x("bool") + " " + k.one("==", "!=", "and", "or") + " " + x("bool") + " )"
}

// play is a program that was made, as a module, and what its boxes are fed with.
type play struct {
	text  string
	m     api.Module
	feeds [][]int64
}

func (k *maker) feedOf(t int) []int64 {
	var l []int64
	for range []int{3, 60, 200, 200}[k.Intn(4)] {
		if t == truth {
			l = append(l, k.Int63n(2))
		} else {
			l = append(l, edges[k.Intn(len(edges))]>>k.Intn(64))
		}
	}
	return l
}

// made answers so many of them.
func made(t *testing.T, seed int64, many int) []play {
	t.Helper()
	k := &maker{Rand: rand.New(rand.NewSource(seed))}
	var out []play
	for tries := 0; len(out) < many; tries++ {
		if tries > 10*many {
			t.Fatal("too few of them come out")
		}
		p := play{text: k.program()}
		l, f := syn.Read(p.text)
		if f.Err == api.OK {
			p.m, f = gen.Compile(l)
		}
		if f.Err != api.OK {
			if tries < 20 {
				t.Logf("%v: %s", f, p.text)
			}
			continue
		}
		for _, b := range p.m.Boxes {
			p.feeds = append(p.feeds, k.feedOf(b.Type))
		}
		out = append(out, p)
	}
	return out
}
