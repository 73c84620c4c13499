package syn_test

import (
	"math/rand"
	"reflect"
	"strings"
	"testing"

	"yieldshape/api"
	"yieldshape/syn"
)

func fault(err api.Errno, at int) api.Fault { return api.Fault{Err: err, At: at} }

func num(n int64) api.Expr { return api.Expr{Kind: api.ENum, N: n} }

func boolean(n int64) api.Expr { return api.Expr{Kind: api.EBool, N: n} }

func variable(name string) api.Expr { return api.Expr{Kind: api.EVar, Name: name} }

func node(kind int, kids ...api.Expr) api.Expr { return api.Expr{Kind: kind, Kids: kids} }

func named(kind int, name string, kids ...api.Expr) api.Expr {
	return api.Expr{Kind: kind, Name: name, Kids: kids}
}

func out(x api.Expr) api.Stat { return api.Stat{Kind: api.SOut, X: x} }

func task(body ...api.Stat) api.Def { return api.Def{Kind: api.DTask, Name: "t", Body: body} }

// outs is the program that puts out x.
func outs(x api.Expr) []api.Def { return []api.Def{task(out(x))} }

var (
	typeNum  = api.Type{Kind: api.TyNum}
	typeBool = api.Type{Kind: api.TyBool}
)

func typeGen(name string) api.Type { return api.Type{Kind: api.TyGen, Gen: name} }

// same holds values against each other; lists without entries and nil are the same (Z3).
func same(a, b any) bool { return alike(reflect.ValueOf(a), reflect.ValueOf(b)) }

func alike(a, b reflect.Value) bool {
	switch a.Kind() {
	case reflect.Slice:
		if a.Len() != b.Len() {
			return false
		}
		for i := range a.Len() {
			if !alike(a.Index(i), b.Index(i)) {
				return false
			}
		}
		return true
	case reflect.Struct:
		for i := range a.NumField() {
			if !alike(a.Field(i), b.Field(i)) {
				return false
			}
		}
		return true
	}
	return a.Interface() == b.Interface()
}

func wantRead(t *testing.T, text string, want ...api.Def) {
	t.Helper()
	got, f := syn.Read(text)
	if f != (api.Fault{}) || !same(got, want) {
		t.Errorf("Read(%.200q) = %v, %v; want %v", text, got, f, want)
	}
}

func wantReadFault(t *testing.T, text string, want api.Fault) {
	t.Helper()
	got, f := syn.Read(text)
	if f != want || got != nil {
		t.Errorf("Read(%.200q) = %v, %v; want none, %v", text, got, f, want)
	}
}

func wantPrint(t *testing.T, want string, l ...api.Def) {
	t.Helper()
	got, f := syn.Print(l)
	if f != (api.Fault{}) || got != want {
		t.Errorf("Print = %.300q, %v; want %.300q", got, f, want)
	}
}

// wantWrong: what Wrong says Print says likewise.
func wantWrong(t *testing.T, l []api.Def, want api.Fault) {
	t.Helper()
	if f := syn.Wrong(l); f != want {
		t.Errorf("Wrong = %v; want %v", f, want)
	}
	text, f := syn.Print(l)
	if want.Err != api.OK && (f != want || text != "") {
		t.Errorf("Print = %.200q, %v; want none, %v", text, f, want)
	}
}

// pairKinds are the kinds with two kids and a sign between, with how strongly these bind.
var pairKinds = []struct {
	kind  int
	sign  string
	level int
}{
	{api.EOr, "or", 1}, {api.EAnd, "and", 2},
	{api.EEq, "==", 3}, {api.ENe, "!=", 3}, {api.ELt, "<", 3}, {api.ELe, "<=", 3}, {api.EGt, ">", 3}, {api.EGe, ">=", 3},
	{api.EAdd, "+", 4}, {api.ESub, "-", 4},
	{api.EMul, "*", 5}, {api.EDiv, "/", 5}, {api.EMod, "%", 5},
}

// maker makes programs with which nothing is wrong, as they are picked by what is random.
type maker struct{ *rand.Rand }

func newMaker(seed int64) maker { return maker{rand.New(rand.NewSource(seed))} }

func (m maker) name() string { return []string{"a", "b", "g", "x1", "_", "abcdefghijkl"}[m.Intn(6)] }

func (m maker) typ() api.Type {
	return []api.Type{typeNum, typeBool, typeGen(m.name())}[m.Intn(3)]
}

func (m maker) program() []api.Def {
	var l []api.Def
	for range 1 + m.Intn(3) {
		l = append(l, m.def())
	}
	return l
}

func (m maker) def() api.Def {
	d := api.Def{Kind: 1 + m.Intn(4), Name: m.name()}
	if d.Kind == api.DBox {
		d.Type, d.Cap = m.typ(), 1+m.Intn(api.MaxCap)
		return d
	}
	if d.Kind != api.DTask {
		for range m.Intn(3) {
			d.Params = append(d.Params, api.Param{Name: m.name(), Type: m.typ()})
		}
		d.Type = m.typ()
	}
	if d.Kind == api.DGen {
		d.Takes = m.typ()
	}
	d.Body = m.body(2)
	return d
}

func (m maker) body(deep int) []api.Stat {
	var l []api.Stat
	for range m.Intn(4) {
		l = append(l, m.stat(deep))
	}
	return l
}

func (m maker) stat(deep int) api.Stat {
	s := api.Stat{Kind: 1 + m.Intn(9)}
	if deep == 0 && (s.Kind == api.SIf || s.Kind == api.SWhile) {
		s.Kind = api.SOut
	}
	if s.Kind == api.SLet || s.Kind == api.SSet || s.Kind == api.SSend {
		s.Name = m.name()
	}
	if s.Kind != api.SStop {
		s.X = m.expr(3)
	}
	if s.Kind == api.SIf || s.Kind == api.SWhile {
		s.Body = m.body(deep - 1)
	}
	if s.Kind == api.SIf {
		s.Else = m.body(deep - 1)
	}
	return s
}

func (m maker) expr(deep int) api.Expr {
	kind := 1 + m.Intn(24)
	if deep == 0 {
		kind = []int{api.ENum, api.EBool, api.EVar, api.ERecv}[m.Intn(4)]
	}
	x := api.Expr{Kind: kind}
	kids := 2
	switch kind {
	case api.ENum:
		x.N, kids = m.Int63n(1_000_000_000_000_000), 0
	case api.EBool:
		x.N, kids = m.Int63n(2), 0
	case api.EVar, api.ERecv:
		x.Name, kids = m.name(), 0
	case api.ENeg, api.ENot, api.EYield, api.EAlive:
		kids = 1
	case api.ECall, api.EStart:
		x.Name, kids = m.name(), m.Intn(4)
	}
	for range kids {
		x.Kids = append(x.Kids, m.expr(deep-1))
	}
	return x
}

// repeat joins n times s, with between between.
func repeat(n int, s, between string) string {
	return strings.TrimSuffix(strings.Repeat(s+between, n), between)
}
