package throw_test

import (
	"testing"

	"yieldshape/api"
	"yieldshape/throw"
)

func TestCaught(t *testing.T) {
	came := 0
	if f := throw.Caught(func() { came++ }); f != (api.Fault{}) || came != 1 {
		t.Errorf("nothing is thrown: %v, %d", f, came)
	}
	var deep func(n int)
	deep = func(n int) {
		if n == 0 {
			throw.Fault(api.ErrFit, 7)
		}
		deep(n - 1)
		t.Error("it goes on behind what is thrown")
	}
	if f := throw.Caught(func() { deep(9) }); f != (api.Fault{Err: api.ErrFit, At: 7}) {
		t.Errorf("thrown from below: %v", f)
	}
}

func TestTheInnerOneCatches(t *testing.T) {
	outer := throw.Caught(func() {
		inner := throw.Caught(func() { throw.Fault(api.ErrName, 1) })
		throw.Fault(inner.Err, inner.At+1)
	})
	if outer != (api.Fault{Err: api.ErrName, At: 2}) {
		t.Errorf("the outer one: %v", outer)
	}
}
