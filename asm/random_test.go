package asm_test

import (
	"math/rand"
	"strings"
	"testing"

	"yieldshape/api"
	"yieldshape/asm"
	"yieldshape/shelf"
)

func randomNumber(r *rand.Rand) int64 {
	if r.Intn(3) > 0 {
		return int64(r.Intn(300) - 100)
	}
	return int64(r.Uint64()) >> r.Intn(64)
}

// randomModule has kinds that are none, one of so many times.
func randomModule(r *rand.Rand, odd int) (m api.Module) {
	number := func() int { return int(randomNumber(r)) }
	kind := func(first, last int) int {
		if r.Intn(odd) == 0 {
			return number()
		}
		return first + r.Intn(last-first+1)
	}
	for range r.Intn(4) {
		m.Boxes = append(m.Boxes, api.BoxInfo{Type: number(), Cap: number()})
	}
	for range r.Intn(5) {
		u := api.Unit{Kind: kind(api.DFn, api.DTask), Params: number(), Result: number(), Takes: number()}
		for range r.Intn(5) * r.Intn(5) {
			u.Locals = append(u.Locals, number())
		}
		for range r.Intn(5) * r.Intn(10) {
			u.Code = append(u.Code, api.Instr{Op: kind(api.OpPush, api.OpAlive), A: number(), N: randomNumber(r)})
		}
		m.Units = append(m.Units, u)
	}
	return m
}

// TestRandomModules are written as their lines, and read back.
func TestRandomModules(t *testing.T) {
	r := rand.New(rand.NewSource(13))
	good, bad := 0, 0
	for range 6000 {
		m := randomModule(r, 60)
		if w := whereWrong(m); w != (api.Where{}) {
			bad++
			wantNoText(t, "a random module", m, w)
			continue
		}
		good++
		wantText(t, m, textOf(m))
		wantModule(t, textOf(m), told(m))
	}
	if good < 1000 || bad < 1000 {
		t.Errorf("%d are written, %d are not: that tells too little", good, bad)
	}
}

// TestRandomGreatModules: about as great as the bound.
func TestRandomGreatModules(t *testing.T) {
	r := rand.New(rand.NewSource(14))
	count := map[api.Errno]int{}
	for range 150 {
		var m api.Module
		for range 4 + r.Intn(10) {
			u := unitOf(4000 + r.Intn(4000))
			if r.Intn(20) == 0 {
				u.Code[r.Intn(len(u.Code))].Op = 0
			}
			if r.Intn(40) == 0 {
				u.Kind = api.DBox
			}
			m.Units = append(m.Units, u)
		}
		want := whereWrong(m)
		count[want.Err]++
		if want.Err == api.OK {
			wantBoth(t, m, textOf(m))
		} else {
			wantNoText(t, "a great module", m, want)
		}
	}
	if min(count[api.OK], count[api.ErrMuch], count[api.ErrKind]) < 20 {
		t.Errorf("%v: that tells too little", count)
	}
}

// checkText: it is read just if all its lines are, and then written again as it was. It answers whether it was.
func checkText(t *testing.T, text string) bool {
	t.Helper()
	if at := firstBadLine(text); at >= 0 {
		wantNoModule(t, text, api.Fault{Err: api.ErrForm, At: at})
		return false
	}
	m, f := asm.Read(text)
	if f != (api.Fault{}) {
		t.Errorf("Read(%q): %v", text, f)
	}
	wantText(t, m, text)
	return true
}

// pieces of texts, so that what is put together of them is often a text.
var pieces = []string{"box 1 2\n", "task 0 0 0\n", "\tend\n", "\tpush 7\n", "\tload", " 3", "\n", "\t", " ", "0", "-", "1", "fn", " -1", "\r", "gen 1 2 3", "9223372036854775807"}

func TestRandomTexts(t *testing.T) {
	r := rand.New(rand.NewSource(15))
	good := 0
	for range 60000 {
		var b strings.Builder
		for range r.Intn(8) {
			b.WriteString(pieces[r.Intn(len(pieces))])
		}
		if checkText(t, b.String()) {
			good++
		}
	}
	if good < 3000 || good > 57000 {
		t.Errorf("%d of 60000 texts are read: that tells too little", good)
	}
}

// TestSpoiltTexts: with a byte changed, lost or put in between, or two lines that have changed places.
func TestSpoiltTexts(t *testing.T) {
	r := rand.New(rand.NewSource(16))
	good, bad := 0, 0
	for range 20000 {
		text := textOf(randomModule(r, 1<<40))
		if text == "" {
			continue
		}
		if checkText(t, spoilt(r, text)) {
			good++
		} else {
			bad++
		}
	}
	if good < 2000 || bad < 2000 {
		t.Errorf("%d spoilt texts are read, %d are not: that tells too little", good, bad)
	}
}

func spoilt(r *rand.Rand, text string) string {
	at := r.Intn(len(text))
	c := "0123456789- \t\nab"[r.Intn(16):][:1]
	switch r.Intn(4) {
	case 0:
		return text[:at] + c + text[at+1:]
	case 1:
		return text[:at] + text[at+1:]
	case 2:
		return text[:at] + c + text[at:]
	}
	l := strings.SplitAfter(text, "\n")
	i, j := r.Intn(len(l)), r.Intn(len(l))
	l[i], l[j] = l[j], l[i]
	return strings.Join(l, "")
}

// TestShelf: what is compiled is written and read back, whole.
func TestShelf(t *testing.T) {
	for _, name := range shelf.Names() {
		m, err := shelf.Module(name)
		if err != api.OK {
			t.Fatalf("Module(%q): %v", name, err)
		}
		wantBoth(t, m, textOf(m))
	}
}
