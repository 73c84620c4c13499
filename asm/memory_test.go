package asm_test

import (
	"runtime"
	"slices"
	"strings"
	"testing"

	"yieldshape/api"
	"yieldshape/asm"
)

// roomySample has something in the spare room behind each list.
func roomySample() api.Module {
	m := sample()
	m.Boxes = append(m.Boxes, api.BoxInfo{Type: 77, Cap: 78})[:len(m.Boxes)]
	for i := range m.Units {
		u := &m.Units[i]
		u.Locals = append(u.Locals, 79)[:len(u.Locals)]
		u.Code = append(u.Code, api.Instr{Op: 80, A: 81, N: 82})[:len(u.Code)]
	}
	m.Units = append(m.Units, api.Unit{Kind: 83})[:len(m.Units)]
	return m
}

// wide is m with the spare room of its lists.
func wide(m api.Module) api.Module {
	out := api.Module{Boxes: m.Boxes[:cap(m.Boxes)]}
	for _, u := range m.Units[:cap(m.Units)] {
		u.Locals, u.Code = u.Locals[:cap(u.Locals)], u.Code[:cap(u.Code)]
		out.Units = append(out.Units, u)
	}
	return out
}

// TestZ2ModulesAreOnlyRead: nor is the spare room behind their lists changed, or looked at.
func TestZ2ModulesAreOnlyRead(t *testing.T) {
	m := roomySample()
	wantText(t, m, sampleText)
	if !same(wide(m), wide(roomySample())) {
		t.Errorf("%v becomes %v", wide(roomySample()), wide(m))
	}
	m.Units[3].Code = m.Units[3].Code[:1]
	wantNoText(t, "what has no such op", m, api.Where{Err: api.ErrKind, Unit: 3})
	m.Units[3].Code = m.Units[3].Code[:0]
	m.Units = m.Units[:5]
	wantNoText(t, "what has no such kind", m, api.Where{Err: api.ErrKind, Unit: 4})
	m.Units = m.Units[:4]
	if !same(wide(m), wide(roomySample())) {
		t.Errorf("%v becomes %v", wide(roomySample()), wide(m))
	}
}

func clearLists(m api.Module) {
	clear(m.Boxes)
	for _, u := range m.Units {
		clear(u.Locals)
		clear(u.Code)
	}
	clear(m.Units)
}

// TestZ2AnswersAreTheCallers: whoever changes an answer, its spare room, or what was handed in, changes no other answer, and no other list of the same one.
func TestZ2AnswersAreTheCallers(t *testing.T) {
	m := sample()
	text, _ := asm.Print(m)
	clearLists(m)
	if text != sampleText {
		t.Errorf("the text becomes %q", text)
	}
	read, _ := asm.Read(text)
	other, _ := asm.Read(text)
	clearLists(wide(other))
	if !same(read, sample()) {
		t.Errorf("the first answer becomes %v", read)
	}
	for i := range read.Units {
		u := &read.Units[i]
		for range 5 {
			u.Locals = append(u.Locals, 1)
			u.Code = append(u.Code, api.Instr{Op: 2})
		}
	}
	for i, u := range sample().Units {
		got := read.Units[i]
		got.Locals, got.Code = got.Locals[:len(u.Locals)], got.Code[:len(u.Code)]
		if !sameUnit(got, u) {
			t.Errorf("unit %d becomes %v, when the others' lists grow", i, got)
		}
	}
}

// TestZ3Empty: lists without entries are as nil.
func TestZ3Empty(t *testing.T) {
	empty := api.Unit{Kind: api.DGen, Locals: []int{}, Code: []api.Instr{}}
	wantText(t, api.Module{Boxes: []api.BoxInfo{}, Units: []api.Unit{}}, "")
	wantText(t, api.Module{Boxes: []api.BoxInfo{}, Units: []api.Unit{empty}}, "gen 0 0 0\n")
	wantText(t, ofUnits(api.Unit{Kind: api.DGen}), "gen 0 0 0\n")
}

// TestZ1SameAnswers: what was asked ahead does not matter.
func TestZ1SameAnswers(t *testing.T) {
	for range 3 {
		wantBoth(t, sample(), sampleText)
		asm.Print(api.Module{Units: []api.Unit{{}}})
		asm.Read(strings.Repeat("box 1 1\n", 100) + "\tend\n")
		wantBoth(t, sample(), sampleText)
	}
}

// TestNoMuchTooMuchRoom: what is refused is refused without writing all of it.
func TestNoMuchTooMuchRoom(t *testing.T) {
	code := slices.Repeat([]api.Instr{{Op: api.OpEnd}, {Op: api.OpPush, N: -1 << 63}, {Op: api.OpLoad, A: -1 << 63}}, 1<<20)
	locals := ofUnits(api.Unit{Kind: api.DFn, Locals: make([]int, 1<<21)})
	boxes := api.Module{Boxes: box8(1 << 21)}
	units := ofUnits(slices.Repeat([]api.Unit{task()}, 1<<18)...)
	text := strings.Repeat("box 1 1\n", 1<<18)
	room := func(call func()) uint64 {
		var before, after runtime.MemStats
		runtime.ReadMemStats(&before)
		call()
		runtime.ReadMemStats(&after)
		return after.TotalAlloc - before.TotalAlloc
	}
	for what, call := range map[string]func(){
		"Print of code": func() { asm.Print(ofUnits(task(code...))) }, "Print of locals": func() { asm.Print(locals) },
		"Print of boxes": func() { asm.Print(boxes) }, "Print of units": func() { asm.Print(units) }, "Read": func() { asm.Read(text) },
	} {
		if n := room(call); n > 1<<20 {
			t.Errorf("%s takes %d bytes of room", what, n)
		}
	}
}
