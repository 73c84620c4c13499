package sema_test

import (
	"slices"
	"testing"

	"yieldshape/api"
	"yieldshape/sema"
	"yieldshape/syn"
)

func fault(err api.Errno, at int) api.Fault { return api.Fault{Err: err, At: at} }

func owner(box, writer, reader string) api.Owner {
	return api.Owner{Box: box, Writer: writer, Reader: reader}
}

var (
	typeNum  = api.Type{Kind: api.TyNum}
	typeBool = api.Type{Kind: api.TyBool}
)

func typeGen(name string) api.Type { return api.Type{Kind: api.TyGen, Gen: name} }

func num(n int64) api.Expr { return api.Expr{Kind: api.ENum, N: n} }

func read(t *testing.T, text string) []api.Def {
	t.Helper()
	l, f := syn.Read(text)
	if f.Err != api.OK {
		t.Fatalf("Read(%q): %v", text, f)
	}
	return l
}

// wantFault: what is wrong with a program Owners and Check say alike, and nothing beside it.
func wantFault(t *testing.T, text string, want api.Fault) {
	t.Helper()
	wantFaultOf(t, text, read(t, text), want)
}

func wantFaultOf(t *testing.T, what string, l []api.Def, want api.Fault) {
	t.Helper()
	owners, f := sema.Owners(l)
	if f != want {
		t.Errorf("Owners(%s): %v; want %v", what, f, want)
	}
	if f.Err != api.OK && len(owners) != 0 {
		t.Errorf("Owners(%s): %v beside %v", what, owners, f)
	}
	if f := sema.Check(l); f != want {
		t.Errorf("Check(%s): %v; want %v", what, f, want)
	}
}

func wantOwners(t *testing.T, text string, want ...api.Owner) {
	t.Helper()
	wantOwnersOf(t, text, read(t, text), want)
}

func wantOwnersOf(t *testing.T, what string, l []api.Def, want []api.Owner) {
	t.Helper()
	owners, f := sema.Owners(l)
	if f != (api.Fault{}) || !slices.Equal(owners, want) {
		t.Errorf("Owners(%s): %v, %v; want %v", what, owners, f, want)
	}
	if f := sema.Check(l); f != (api.Fault{}) {
		t.Errorf("Check(%s): %v", what, f)
	}
}
