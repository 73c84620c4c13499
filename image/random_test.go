package image_test

import (
	"bytes"
	"encoding/binary"
	"math/rand"
	"testing"

	"yieldshape/api"
	"yieldshape/image"
)

// listOf are the numbers that body is made of, each just as the library writes it; false, if it is made of none.
func listOf(body []byte) ([]int64, bool) {
	var l []int64
	for len(body) > 0 {
		n, size := binary.Varint(body)
		if size <= 0 || !bytes.Equal(numbers(n), body[:size]) {
			return nil, false
		}
		l, body = append(l, n), body[size:]
	}
	return l, true
}

// lists cuts so many entries, each of so many numbers, from l; nil, if there are fewer.
func lists(l []int64, each int) (entries [][]int64, rest []int64, ok bool) {
	if len(l) == 0 || l[0] < 0 || l[0] > int64(len(l)) || int(l[0])*each > len(l)-1 {
		return nil, nil, false
	}
	n := int(l[0])
	for i := range n {
		entries = append(entries, l[1+i*each:][:each])
	}
	return entries, l[1+n*each:], true
}

// moduleOf is the module that has these numbers, worked out from the list of all of them.
func moduleOf(l []int64) (m api.Module, ok bool) {
	boxes, l, ok := lists(l, 2)
	if !ok || len(l) == 0 || l[0] < 0 || l[0] > int64(len(l)) {
		return api.Module{}, false
	}
	for _, b := range boxes {
		m.Boxes = append(m.Boxes, api.BoxInfo{Type: int(b[0]), Cap: int(b[1])})
	}
	units := int(l[0])
	l = l[1:]
	for range units {
		var u api.Unit
		if u, l, ok = unitOf(l); !ok {
			return api.Module{}, false
		}
		m.Units = append(m.Units, u)
	}
	if len(l) > 0 {
		return api.Module{}, false
	}
	return m, true
}

func unitOf(l []int64) (u api.Unit, rest []int64, ok bool) {
	if len(l) < 2 {
		return u, nil, false
	}
	u.Kind, u.Params = int(l[0]), int(l[1])
	locals, l, ok := lists(l[2:], 1)
	if !ok || len(l) < 2 {
		return u, nil, false
	}
	for _, n := range locals {
		u.Locals = append(u.Locals, int(n[0]))
	}
	u.Result, u.Takes = int(l[0]), int(l[1])
	code, l, ok := lists(l[2:], 3)
	for _, c := range code {
		u.Code = append(u.Code, api.Instr{Op: int(c[0]), A: int(c[1]), N: c[2]})
	}
	return u, l, ok
}

// checkBody: what is sealed is read just if it is made of a module's numbers, and then written again as it was. It answers whether it was.
func checkBody(t *testing.T, body []byte) bool {
	t.Helper()
	b := sealed(body...)
	l, ok := listOf(body)
	var want api.Module
	if ok {
		want, ok = moduleOf(l)
	}
	m, err := image.Parse(b)
	if (err == api.OK) != ok || !ok && err != api.ErrForm || !same(m, want) {
		t.Fatalf("Parse(%v) = %v, %v; want %v, %v", b, m, err, want, ok)
	}
	if ok {
		again, err := image.Bytes(m)
		if err != api.OK || !bytes.Equal(again, b) {
			t.Fatalf("Bytes(%v) = %v, %v; want %v", m, again, err, b)
		}
	}
	return ok
}

// TestEachShortBody: all of up to two bytes, and all of up to eight bytes of a few kinds.
func TestEachShortBody(t *testing.T) {
	checkBody(t, nil)
	for c := range 256 {
		checkBody(t, []byte{byte(c)})
		for d := range 256 {
			checkBody(t, []byte{byte(c), byte(d)})
		}
	}
	kinds := []byte{0, 1, 2, 4, 128}
	good := 0
	for n := range 9 {
		body := make([]byte, n)
		total := 1
		for range n {
			total *= len(kinds)
		}
		for code := range total {
			for i := range body {
				body[i] = kinds[code%len(kinds)]
				code /= len(kinds)
			}
			if checkBody(t, body) {
				good++
			}
		}
	}
	if good < 500 {
		t.Errorf("%d bodies are modules: that tells too little", good)
	}
}

func randomNumber(r *rand.Rand) int64 {
	if r.Intn(3) > 0 {
		return int64(r.Intn(300) - 100)
	}
	return int64(r.Uint64()) >> r.Intn(64)
}

func randomModule(r *rand.Rand) (m api.Module) {
	number := func() int { return int(randomNumber(r)) }
	for range r.Intn(4) {
		m.Boxes = append(m.Boxes, api.BoxInfo{Type: number(), Cap: number()})
	}
	for range r.Intn(5) {
		u := api.Unit{Kind: number(), Params: number(), Result: number(), Takes: number()}
		for range r.Intn(5) * r.Intn(20) {
			u.Locals = append(u.Locals, number())
		}
		for range r.Intn(5) * r.Intn(20) {
			u.Code = append(u.Code, api.Instr{Op: number(), A: number(), N: randomNumber(r)})
		}
		m.Units = append(m.Units, u)
	}
	return m
}

// numbersOf are those of m, one behind the other.
func numbersOf(m api.Module) []int64 {
	l := []int64{int64(len(m.Boxes))}
	for _, b := range m.Boxes {
		l = append(l, int64(b.Type), int64(b.Cap))
	}
	l = append(l, int64(len(m.Units)))
	for _, u := range m.Units {
		l = append(l, int64(u.Kind), int64(u.Params), int64(len(u.Locals)))
		for _, n := range u.Locals {
			l = append(l, int64(n))
		}
		l = append(l, int64(u.Result), int64(u.Takes), int64(len(u.Code)))
		for _, c := range u.Code {
			l = append(l, int64(c.Op), int64(c.A), c.N)
		}
	}
	return l
}

// TestRandomModules are written as their numbers, and read back; with a byte changed, lost or put in between, and a sum that fits, they are read just if there is such a module.
func TestRandomModules(t *testing.T) {
	r := rand.New(rand.NewSource(8))
	good, bad := 0, 0
	for range 3000 {
		m := randomModule(r)
		body := numbers(numbersOf(m)...)
		wantImage(t, m, body)
		for range 5 {
			if checkBody(t, spoilt(r, body)) {
				good++
			} else {
				bad++
			}
		}
	}
	if good < 2000 || bad < 2000 {
		t.Errorf("%d spoilt images are modules, %d are none: that tells too little", good, bad)
	}
}

func spoilt(r *rand.Rand, body []byte) []byte {
	at, c := r.Intn(len(body)), byte(r.Intn(256))
	out := append([]byte{}, body[:at]...)
	switch r.Intn(3) {
	case 0:
		out = append(append(out, c), body[at+1:]...)
	case 1:
		out = append(out, body[at+1:]...)
	default:
		out = append(append(out, c), body[at:]...)
	}
	return out
}
