package syn_test

import (
	"strings"
	"testing"

	"yieldshape/api"
	"yieldshape/lex"
	"yieldshape/syn"
)

// grammar is what B1 and B2 say, rule by rule: NAME, NUMBER and PLACES are tokens, what has a rule is none, all else is a word or a sign.
const grammar = `
program =
program = def program
def = box NAME type PLACES ;
def = fn NAME params type body
def = gen NAME params takes type yields type body
def = task NAME body
params = ( )
params = ( param-list )
param-list = NAME type
param-list = NAME type , param-list
type = num
type = bool
type = NAME
body = { stats }
stats =
stats = stat stats
stat = let NAME is expr ;
stat = NAME is expr ;
stat = if expr body
stat = if expr body else body
stat = while expr body
stat = return expr ;
stat = stop ;
stat = send NAME expr ;
stat = out expr ;
stat = do expr ;
expr = conj
expr = expr or conj
conj = comp
conj = conj and comp
comp = sum
comp = sum comparing sum
comparing = ==
comparing = !=
comparing = <
comparing = <=
comparing = >
comparing = >=
sum = prod
sum = sum + prod
sum = sum - prod
prod = unary
prod = prod * unary
prod = prod / unary
prod = prod % unary
unary = - unary
unary = not unary
unary = piece
piece = NUMBER
piece = true
piece = false
piece = NAME
piece = ( expr )
piece = NAME kids
piece = start NAME kids
piece = recv ( NAME )
piece = yield ( expr )
piece = alive ( expr )
piece = resume ( expr , expr )
kids = ( )
kids = ( expr-list )
expr-list = expr
expr-list = expr , expr-list
`

type rule struct {
	left  string
	right []string
}

// place is how far a rule has come, and where it began.
type place struct{ rule, dot, from int }

// recognizer tells by sets of places (as Earley does) what may come next: it knows nothing of how syn reads.
type recognizer struct {
	rules []rule
	left  map[string]bool
}

func newRecognizer() recognizer {
	g := recognizer{left: map[string]bool{}}
	for _, line := range strings.Split(strings.TrimSpace(grammar), "\n") {
		left, right, _ := strings.Cut(line, " =")
		r := rule{left: left, right: strings.Fields(right)}
		for i, s := range r.right {
			if s == "is" {
				r.right[i] = "="
			}
		}
		g.rules = append(g.rules, r)
		g.left[left] = true
	}
	return g
}

// next answers what stands behind the dot, nothing if the rule is at its end.
func (g recognizer) next(p place) string {
	if r := g.rules[p.rule].right; p.dot < len(r) {
		return r[p.dot]
	}
	return ""
}

// close adds to the last set all that follows from it.
func (g recognizer) close(sets []map[place]bool) {
	at := len(sets) - 1
	for grew := true; grew; {
		grew = false
		add := func(p place) {
			if !sets[at][p] {
				sets[at][p], grew = true, true
			}
		}
		for p := range sets[at] {
			s := g.next(p)
			if s == "" {
				for q := range sets[p.from] {
					if g.next(q) == g.rules[p.rule].left {
						add(place{q.rule, q.dot + 1, q.from})
					}
				}
			}
			for i, r := range g.rules {
				if s != "" && r.left == s {
					add(place{i, 0, at})
				}
			}
		}
	}
}

func matches(terminal string, t api.Token) bool {
	switch terminal {
	case "NAME":
		return lex.Named(t.Text)
	case "NUMBER":
		return t.Kind == api.TNum
	case "PLACES":
		return t.Kind == api.TNum && 1 <= t.Num && t.Num <= api.MaxCap
	}
	return terminal == t.Text
}

// fault answers what B3 asks of a text within all limits.
func (g recognizer) fault(text string) api.Fault {
	tokens, f := lex.Tokens(text)
	if f.Err != api.OK {
		return f
	}
	sets := []map[place]bool{{}}
	for i, r := range g.rules {
		if r.left == "program" {
			sets[0][place{i, 0, 0}] = true
		}
	}
	g.close(sets)
	for _, t := range tokens {
		last, moved := sets[len(sets)-1], map[place]bool{}
		asked := map[string]bool{}
		for p := range last {
			s := g.next(p)
			asked[s] = !g.left[s]
			if s != "" && !g.left[s] && matches(s, t) {
				moved[place{p.rule, p.dot + 1, p.from}] = true
			}
		}
		if len(moved) == 0 {
			return whatFits(asked, t)
		}
		sets = append(sets, moved)
		g.close(sets)
	}
	for p := range sets[len(sets)-1] {
		if g.rules[p.rule].left == "program" && g.next(p) == "" && p.from == 0 {
			return api.Fault{}
		}
	}
	return fault(api.ErrForm, len(text))
}

func whatFits(asked map[string]bool, t api.Token) api.Fault {
	if asked["NAME"] && t.Kind == api.TWord {
		return fault(api.ErrName, t.At)
	}
	if asked["PLACES"] && t.Kind == api.TNum {
		return fault(api.ErrRange, t.At)
	}
	return fault(api.ErrForm, t.At)
}

// strays are the tokens by which programs are spoilt: all words and signs, names, words that are none, numbers.
var strays = strings.Fields("box fn gen task takes yields let if else while return stop send out do recv yield start resume alive num bool true false and or not " +
	"== != <= >= < > = + - * / % ( ) { } , ; a abcdefghijkl abcdefghijklm 0 1 20 21 007")

// spoil changes one token of a text, or takes one out, or puts one in, or ends the text early.
func (m maker) spoil(text string) string {
	tokens := strings.Fields(text)
	if len(tokens) == 0 {
		return text
	}
	at, stray := m.Intn(len(tokens)), strays[m.Intn(len(strays))]
	switch m.Intn(5) {
	case 0:
		tokens[at] = stray
	case 1:
		tokens[at] = ""
	case 2:
		tokens[at] += "\n" + stray
	case 3:
		tokens = tokens[:at]
	case 4:
		other := m.Intn(len(tokens))
		tokens[at], tokens[other] = tokens[other], tokens[at]
	}
	return strings.Join(tokens, " ")
}

// small makes programs of few tokens, so that the recognizer is quick.
func (m maker) small() string {
	for {
		if text, f := syn.Print(m.program()); f.Err == api.OK && len(text) < 240 {
			return text
		}
	}
}

func TestB3AgainstTheGrammar(t *testing.T) {
	g, m := newRecognizer(), newMaker(1)
	seen := map[api.Errno]int{}
	for range 4000 {
		text := m.small()
		for range m.Intn(3) {
			text = m.spoil(text)
		}
		want := g.fault(text)
		if _, f := syn.Read(text); f != want {
			t.Fatalf("Read(%q): %v; the grammar asks for %v", text, f, want)
		}
		seen[want.Err]++
	}
	for _, err := range []api.Errno{api.OK, api.ErrForm, api.ErrName, api.ErrRange} {
		if seen[err] == 0 {
			t.Errorf("error %d never came up", err)
		}
	}
}

// TestB3EachTokenAtEachPlace goes through all tokens at all places of programs that have each kind of thing.
func TestB3EachTokenAtEachPlace(t *testing.T) {
	g := newRecognizer()
	for _, text := range []string{
		"box b num 2 ;", "fn f ( a num , b g ) bool { }", "gen g ( ) takes num yields bool { stop ; }",
		"task t { let a = 1 ; a = - b ; send b true ; }", "task t { if a { } else { } while a { } do 1 ; }",
		"task t { out a or b == f ( 1 , a ) ; }", "task t { return ( start g ( ) ) ; }",
		"task t { do recv ( b ) ; do yield ( 1 ) ; }", "task t { do resume ( h , 1 ) + alive ( h ) ; }",
	} {
		tokens := strings.Fields(text)
		for at := range len(tokens) + 1 {
			ahead := strings.Join(tokens[:at], " ")
			for _, stray := range append(strays, "") {
				s := ahead + " " + stray
				want := g.fault(s)
				if _, f := syn.Read(s); f != want {
					t.Fatalf("Read(%q): %v; the grammar asks for %v", s, f, want)
				}
			}
		}
	}
}
