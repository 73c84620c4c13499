package gen_test

import (
	"fmt"
	"math/rand"
	"reflect"
	"slices"
	"testing"

	"yieldshape/api"
	"yieldshape/gen"
	"yieldshape/image"
	"yieldshape/sema"
	"yieldshape/syn"
)

// TestRandomPrograms: what they become is what the oracle says, and it is verified.
func TestRandomPrograms(t *testing.T) {
	ops := map[int]int{}
	again := 0 // names that were let twice in one unit
	for i, p := range made(t, 8, 4000) {
		want := (&oracle{maker: p}).module()
		wantModuleOf(t, fmt.Sprint("program ", i, " ", p.defs), p.defs, want)
		if t.Failed() {
			return
		}
		for _, u := range want.Units {
			for _, c := range u.Code {
				ops[c.Op]++
			}
		}
		for _, l := range p.lets {
			for n, q := range l {
				if slices.ContainsFunc(l[:n], func(r api.Param) bool { return r.Name == q.Name }) {
					again++
				}
			}
		}
	}
	for op := api.OpPush; op <= api.OpAlive; op++ {
		if ops[op] < 200 {
			t.Errorf("%s comes %d times: that tells too little", words[op-1], ops[op])
		}
	}
	if again < 500 {
		t.Errorf("%d names are let again: that tells too little", again)
	}
}

// TestRandomTexts: a program that was written and read becomes the same module, and that is written and read as bytes.
func TestRandomTexts(t *testing.T) {
	many := 0
	for _, p := range made(t, 88, 1000) {
		m, _ := gen.Compile(p.defs)
		b, err := image.Bytes(m)
		if back, e := image.Parse(b); err != api.OK || e != api.OK || !same(back, m) {
			t.Fatalf("%v: as bytes %v, %v, read %v, %v", m, b, err, back, e)
		}
		text, f := syn.Print(p.defs)
		if f.Err == api.ErrMuch {
			continue
		}
		many++
		if again, f := gen.Compile(read(t, text)); f != (api.Fault{}) || !same(again, m) {
			t.Fatalf("%s becomes %v, %v; want %v", text, again, f, m)
		}
	}
	if many < 800 {
		t.Errorf("%d texts tell too little", many)
	}
}

// spoil changes something of a program somewhere.
func spoil(r *rand.Rand, l []api.Def) {
	d := &l[r.Intn(len(l))]
	switch r.Intn(6) {
	case 0:
		d.Kind = r.Intn(6)
	case 1:
		d.Name = l[r.Intn(len(l))].Name
	case 2:
		d.Type.Kind = r.Intn(5)
	case 3:
		d.Takes.Kind = r.Intn(5)
	default:
		if len(d.Body) == 0 {
			return
		}
		s := &d.Body[r.Intn(len(d.Body))]
		switch r.Intn(4) {
		case 0:
			s.Kind = r.Intn(11)
		case 1:
			s.Name = fmt.Sprint("v", r.Intn(4))
		case 2:
			s.X.Kind = r.Intn(26)
		default:
			s.X.Name = fmt.Sprint("d", r.Intn(6))
		}
	}
}

// TestRandomSpoilt: what Check refuses is refused with its fault, all else becomes a module.
func TestRandomSpoilt(t *testing.T) {
	r := rand.New(rand.NewSource(888))
	count := map[api.Errno]int{}
	for _, p := range made(t, 888, 6000) {
		spoil(r, p.defs)
		want := sema.Check(p.defs)
		wantFault(t, fmt.Sprint(p.defs), p.defs, want)
		if t.Failed() {
			return
		}
		count[want.Err]++
		if m, _ := gen.Compile(p.defs); want.Err == api.OK {
			wantModuleOf(t, fmt.Sprint(p.defs), p.defs, m)
		}
	}
	for _, err := range []api.Errno{api.OK, api.ErrKind, api.ErrMany, api.ErrName, api.ErrFit, api.ErrType} {
		if count[err] < 20 {
			t.Errorf("%v is told %d times: that tells too little", err, count[err])
		}
	}
}

// TestAnswersHangOnArgumentsAlone: not on how often one asks, nor on what was asked ahead of that (Z1).
func TestAnswersHangOnArgumentsAlone(t *testing.T) {
	all := made(t, 18, 100)
	var first []api.Module
	for _, p := range all {
		m, _ := gen.Compile(p.defs)
		first = append(first, m)
	}
	r := rand.New(rand.NewSource(18))
	for range 5 {
		for _, i := range r.Perm(len(all)) {
			if m, f := gen.Compile(all[i].defs); f != (api.Fault{}) || !reflect.DeepEqual(m, first[i]) {
				t.Fatalf("%v, %v; at first %v", m, f, first[i])
			}
		}
	}
}
