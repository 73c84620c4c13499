package image_test

import (
	"bytes"
	"runtime"
	"slices"
	"testing"

	"yieldshape/api"
	"yieldshape/image"
)

// TestArgumentsAreOnlyRead: nor is the spare room behind them changed, or looked at (Z2).
func TestArgumentsAreOnlyRead(t *testing.T) {
	whole := sealed(numbers(sampleNumbers()...)...)
	roomy := append(slices.Clone(whole), 9, 9, 9, 9)
	before := slices.Clone(roomy)
	image.Sum(roomy[:len(whole)])
	if m, err := image.Parse(roomy[:len(whole)]); err != api.OK || !same(m, sample()) {
		t.Errorf("with spare room behind: %v, %v", m, err)
	}
	for n := range whole {
		image.Parse(roomy[:n])
	}
	if !bytes.Equal(roomy, before) {
		t.Errorf("%v becomes %v", before, roomy)
	}
	m, full := roomySample(), roomySample()
	if b, err := image.Bytes(m); err != api.OK || !bytes.Equal(b, whole) {
		t.Errorf("Bytes with spare room behind each list: %v, %v", b, err)
	}
	if !same(wide(m), wide(full)) {
		t.Errorf("%v becomes %v", wide(full), wide(m))
	}
}

// roomySample has something in the spare room behind each list.
func roomySample() api.Module {
	m := sample()
	m.Boxes = append(m.Boxes, api.BoxInfo{Type: 77, Cap: 78})[:len(m.Boxes)]
	for i := range m.Units {
		u := &m.Units[i]
		u.Locals = append(u.Locals, 79)[:len(u.Locals)]
		u.Code = append(u.Code, api.Instr{Op: 80, A: 81, N: 82})[:len(u.Code)]
	}
	m.Units = append(m.Units, api.Unit{Kind: 83})[:len(m.Units)]
	return m
}

// wide is m with the spare room of its lists.
func wide(m api.Module) api.Module {
	out := api.Module{Boxes: m.Boxes[:cap(m.Boxes)]}
	for _, u := range m.Units[:cap(m.Units)] {
		u.Locals, u.Code = u.Locals[:cap(u.Locals)], u.Code[:cap(u.Code)]
		out.Units = append(out.Units, u)
	}
	return out
}

// TestAnswersAreTheCallers: whoever changes an answer, its spare room, or what was handed in, changes no other answer, and no other list of the same one (Z1, Z2).
func TestAnswersAreTheCallers(t *testing.T) {
	m := sample()
	b, _ := image.Bytes(m)
	other, _ := image.Bytes(m)
	clear(other[:cap(other)])
	clearLists(m)
	if !bytes.Equal(b, sealed(numbers(sampleNumbers()...)...)) {
		t.Errorf("the first answer becomes %v", b)
	}
	read, _ := image.Parse(b)
	otherRead, _ := image.Parse(b)
	clear(b[:cap(b)])
	clearLists(wide(otherRead))
	if !same(read, sample()) {
		t.Errorf("the first answer becomes %v", read)
	}
	for i := range read.Units {
		u := &read.Units[i]
		for range 5 {
			u.Locals = append(u.Locals, 1)
			u.Code = append(u.Code, api.Instr{Op: 2})
		}
	}
	for i, u := range sample().Units {
		got := read.Units[i]
		got.Locals, got.Code = got.Locals[:len(u.Locals)], got.Code[:len(u.Code)]
		if !sameUnit(got, u) {
			t.Errorf("unit %d becomes %v, when the others' lists grow", i, got)
		}
	}
}

func clearLists(m api.Module) {
	clear(m.Boxes)
	for _, u := range m.Units {
		clear(u.Locals)
		clear(u.Code)
	}
	clear(m.Units)
}

// TestNoMuchTooMuchRoom: what is refused is refused without laying out room for all that it tells of.
func TestNoMuchTooMuchRoom(t *testing.T) {
	m := ofUnit(api.Unit{Locals: make([]int, 1<<22)})
	b := sealed(numbers(0, 1, 0, 0, 1<<40, 0, 0)...)
	room := func(call func()) uint64 {
		var before, after runtime.MemStats
		runtime.ReadMemStats(&before)
		call()
		runtime.ReadMemStats(&after)
		return after.TotalAlloc - before.TotalAlloc
	}
	if n := room(func() { image.Bytes(m) }); n > 1<<20 {
		t.Errorf("Bytes takes %d bytes of room", n)
	}
	if n := room(func() { image.Parse(b) }); n > 1<<20 {
		t.Errorf("Parse takes %d bytes of room", n)
	}
}
