package sched_test

import (
	"fmt"
	"math/rand"
	"strings"
	"testing"

	"yieldshape/api"
	"yieldshape/gen"
	"yieldshape/syn"
)

// maker makes the texts of programs: some tasks, each with a function and a generator of its own, and boxes between them.
type maker struct {
	*rand.Rand
	here   int      // whose body is made: that of a task, of its function, or of its generator
	within string   // task, fn or gen
	to     []string // boxes to which that task sends, with their types, by turns
	from   []string // boxes from which it receives
	stands []string // names and types, by turns, of what stands for something
	fresh  int
}

func (k *maker) one(l ...string) string { return l[k.Intn(len(l))] }

func (k *maker) name() string {
	k.fresh++
	return fmt.Sprint("v", k.fresh)
}

func (k *maker) program() string {
	var out strings.Builder
	tasks := 1 + k.Intn(5)*4/5
	to, from := make([][]string, tasks), make([][]string, tasks)
	for n := range 1 + k.Intn(6) {
		name, t := fmt.Sprint("b", n), k.one("num", "num", "num", "bool")
		fmt.Fprintf(&out, "box %s %s %d ; ", name, t, 1+k.Intn(1+k.Intn(4)))
		a, b := k.ends(tasks)
		to[a], from[b] = append(to[a], name, t), append(from[b], name, t)
	}
	for n := range tasks {
		k.here, k.to, k.from = n, to[n], from[n]
		k.within, k.stands = "fn", strings.Fields("n num")
		fmt.Fprintf(&out, "fn f%d ( n num ) num { if n > 9 { return 3 ; } %s } ", n, k.block(1, 1+k.Intn(3)))
		k.within, k.stands = "gen", strings.Fields("n num")
		fmt.Fprintf(&out, "gen g%d ( n num ) takes num yields num { %s } ", n, k.yields())
		k.within, k.stands = "task", strings.Fields("h g")
		fmt.Fprintf(&out, "task t%d { let h = start g%d ( 2 ) ; %s } ", n, n, k.body())
	}
	return out.String()
}

// ends are who sends to a box, and who receives from it: mostly one further on, else too many tasks would soon wait for each other.
func (k *maker) ends(tasks int) (from, to int) {
	a, b := k.Intn(tasks), k.Intn(tasks)
	if a == b && k.Intn(4) > 0 {
		b = (a + 1) % tasks
	}
	if k.Intn(6) > 0 {
		return min(a, b), max(a, b)
	}
	return a, b
}

// body is a task's: most go round and round, from what they receive to what they send.
func (k *maker) body() string {
	text := k.block(1, k.Intn(3))
	if k.Intn(5) == 0 {
		return text + k.block(2, 4)
	}
	before := len(k.stands)
	text += "while true { "
	for i := 0; i < len(k.from); i += 2 {
		name := k.name()
		text += "let " + name + " = recv ( " + k.from[i] + " ) ; "
		k.stands = append(k.stands, name, k.from[i+1])
	}
	text += k.block(2, k.Intn(3))
	for i := 0; i < len(k.to); i += 2 {
		text += "send " + k.to[i] + " " + k.expr(k.to[i+1], 2) + " ; "
	}
	k.stands = k.stands[:before]
	return text + "} "
}

// yields is a generator's body: most never come to their end.
func (k *maker) yields() string {
	if k.Intn(4) == 0 {
		return k.block(2, 2+k.Intn(3))
	}
	return "while true { " + k.block(1, k.Intn(2)) + "n = yield ( " + k.expr("num", 2) + " ) ; } "
}

func (k *maker) block(deep, size int) string {
	before := len(k.stands)
	var out strings.Builder
	for range size {
		out.WriteString(k.stat(deep))
	}
	k.stands = k.stands[:before]
	return out.String()
}

func (k *maker) stat(deep int) string {
	switch k.Intn(12) {
	case 0, 1:
		t := k.one("num", "num", "bool")
		x, name := k.expr(t, 2), k.name()
		k.stands = append(k.stands, name, t)
		return "let " + name + " = " + x + " ; "
	case 2:
		i := 2 * k.Intn(len(k.stands)/2)
		if k.stands[i+1] != "g" || k.Intn(2) == 0 {
			return k.stands[i] + " = " + k.expr(k.stands[i+1], 2) + " ; "
		}
	case 3:
		if deep > 0 {
			return "if " + k.expr("bool", 2) + " { " + k.block(deep-1, k.Intn(3)) + "} else { " + k.block(deep-1, k.Intn(3)) + "} "
		}
	case 4:
		if deep > 0 {
			i := k.name()
			if k.within == "task" && k.Intn(8) == 0 {
				return fmt.Sprintf("while true { h = start g%d ( 1 ) ; %s } ", k.here, k.block(deep-1, 1+k.Intn(2)))
			}
			return fmt.Sprintf("let %s = 0 ; while %s < %s { %s %s = %s + 1 ; } ", i, i, k.one("3", "9", "40"), k.block(deep-1, 1+k.Intn(2)), i, i)
		}
	case 5:
		if k.within == "fn" {
			return "return " + k.expr("num", 2) + " ; "
		}
		if k.Intn(9) == 0 {
			return "stop ; "
		}
	case 6:
		if len(k.to) > 0 {
			i := 2 * k.Intn(len(k.to)/2)
			return "send " + k.to[i] + " " + k.expr(k.to[i+1], 2) + " ; "
		}
	case 9:
		return "do " + k.expr(k.one("num", "bool"), 2) + " ; "
	}
	return "out " + k.expr(k.one("num", "bool"), 2) + " ; "
}

// recv is an expression that receives something of a type; none, if the task receives nothing of that.
func (k *maker) recv(t string) string {
	for i := range len(k.from) / 2 {
		if k.from[2*i+1] == t && k.Intn(2) == 0 {
			return "recv ( " + k.from[2*i] + " )"
		}
	}
	return ""
}

// expr makes an expression of a type: num, bool, or g, what the task's generator has started.
func (k *maker) expr(t string, deep int) string {
	if r := k.recv(t); r != "" && k.within != "fn" && k.Intn(12) == 0 {
		return r
	}
	for i := range len(k.stands) / 2 {
		if k.stands[2*i+1] == t && k.Intn(4) == 0 {
			return k.stands[2*i]
		}
	}
	x := func(t string) string { return k.expr(t, deep-1) }
	switch {
	case t == "g":
		return fmt.Sprintf("start g%d ( %s )", k.here, x("num"))
	case t == "bool" && deep <= 0:
		return k.one("true", "false")
	case t == "bool" && k.Intn(4) == 0:
		return k.one("not "+x("bool"), "( "+x("bool")+" "+k.one("and", "or", "==")+" "+x("bool")+" )")
	case t == "bool":
		return "( " + x("num") + " " + k.one("<", ">=", "!=") + " " + x("num") + " )"
	case deep <= 0:
		return k.one("0", "1", "2", "3", "7")
	}
	return k.num(x)
}

func (k *maker) num(x func(string) string) string {
	switch n := k.Intn(10); {
	case n == 0:
		return fmt.Sprintf("f%d ( %s )", k.here, x("num"))
	case n == 1 && k.within == "fn":
		return fmt.Sprintf("f%d ( n + 1 )", k.here)
	case n < 3 && k.within == "gen":
		return "yield ( " + x("num") + " )"
	case n < 4 && k.within == "task" && k.Intn(5) == 0:
		return "resume ( " + x("g") + " , " + x("num") + " )"
	case n < 4 && k.within == "task":
		return "resume ( h , " + x("num") + " )"
	case n == 4:
		return "( " + x("num") + " " + k.one("/", "%") + " " + k.one("3", "( "+x("num")+" )") + " )"
	}
	return "( " + x("num") + " " + k.one("+", "-", "*") + " " + x("num") + " )"
}

// picks makes picks of so many tasks, some of which are none.
func (k *maker) picks(tasks int) []api.Pick {
	var l []api.Pick
	most := []int{2, 20, 300, 3000}[k.Intn(4)]
	for range k.Intn(1 + k.Intn(api.MaxPicks+1)) {
		p := api.Pick{Task: k.Intn(tasks), Quantum: 1 + k.Intn(most)}
		switch k.Intn(40) {
		case 0:
			p.Task = []int{-1, tasks, 1 << 40}[k.Intn(3)]
		case 1:
			p.Quantum = []int{0, -5, 10000, 10001}[k.Intn(4)]
		}
		l = append(l, p)
	}
	return l
}

// play is a program that was made, as a module, and how its tasks are picked.
type play struct {
	text  string
	m     api.Module
	tasks int
	picks []api.Pick
}

// made answers so many of them.
func made(t *testing.T, seed int64, many int) []play {
	t.Helper()
	k := &maker{Rand: rand.New(rand.NewSource(seed))}
	var out []play
	for tries := 0; len(out) < many; tries++ {
		if tries > 10*many {
			t.Fatal("too few of them come out")
		}
		p := play{text: k.program()}
		l, f := syn.Read(p.text)
		if f.Err == api.OK {
			p.m, f = gen.Compile(l)
		}
		if f.Err != api.OK {
			if tries < 20 {
				t.Logf("%v: %s", f, p.text)
			}
			continue
		}
		p.tasks = strings.Count(p.text, "task ")
		p.picks = k.picks(p.tasks)
		out = append(out, p)
	}
	return out
}
