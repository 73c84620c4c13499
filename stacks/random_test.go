package stacks_test

import (
	"math/rand"
	"slices"
	"testing"

	"yieldshape/api"
	"yieldshape/stacks"
)

// script is a list of entries with what must come of it, worked out without a stack.
type script struct {
	least, most int
	l           []api.StackOp
}

// counts are how many words there are after each entry: pushes less what was popped.
func (s script) counts() []int {
	var out []int
	sum := 0
	for _, op := range s.l {
		if op.Kind == api.StPush {
			sum++
		}
		if op.Kind == api.StPop {
			sum -= op.N
		}
		out = append(out, sum)
	}
	return out
}

// ahead are how many words there are ahead of entry i.
func ahead(counts []int, i int) int {
	if i == 0 {
		return 0
	}
	return counts[i-1]
}

// fault is the first entry at which the words would be too many, or reach below none, or where there is no such word or kind.
func (s script) fault(counts []int) api.Fault {
	for i, op := range s.l {
		before := ahead(counts, i)
		switch {
		case op.Kind < 1 || op.Kind > 3:
			return api.Fault{Err: api.ErrKind, At: i}
		case op.Kind == api.StPush && counts[i] > s.most:
			return api.Fault{Err: api.ErrMuch, At: i}
		case op.Kind == api.StPop && (counts[i] < 0 || counts[i] > before):
			return api.Fault{Err: api.ErrRange, At: i}
		case op.Kind == api.StSet && (op.N < 0 || op.N > before-1):
			return api.Fault{Err: api.ErrRange, At: i}
		}
	}
	return api.Fault{}
}

// words: each is what was last written to its place, be it by a push at that height or a set.
func (s script) words(counts []int) []int64 {
	var out []int64
	for place := range ahead(counts, len(counts)) {
		for i := len(s.l) - 1; i >= 0; i-- {
			op := s.l[i]
			if op.Kind == api.StPush && counts[i] == place+1 || op.Kind == api.StSet && op.N == place {
				out = append(out, op.V)
				break
			}
		}
	}
	return out
}

// rooms are looked for among all that there may be: twice as much is the most that is no more than that, half as much is what leaves no more than one over.
func (s script) rooms(counts []int) []int {
	var out []int
	room := s.least
	for i, op := range s.l {
		next := room
		for r := s.least; r <= s.most; r++ {
			if op.Kind == api.StPush && counts[i] > room && r-room <= room {
				next = max(next, r)
			}
			if op.Kind == api.StPop && 4*counts[i] <= room && r < room && room-2*r <= 1 {
				next = min(next, r)
			}
		}
		room = next
		out = append(out, room)
	}
	return out
}

func (s script) check(t *testing.T) {
	t.Helper()
	words, rooms, f := stacks.Play(s.least, s.most, s.l)
	counts := s.counts()
	want := s.fault(counts)
	if want.Err != api.OK {
		wantFault(t, s.least, s.most, s.l, want)
		return
	}
	if w, r := s.words(counts), s.rooms(counts); f != want || !slices.Equal(words, w) || !slices.Equal(rooms, r) {
		t.Fatalf("Play(%d, %d, %v) = %v, %v, %v; want %v, %v", s.least, s.most, s.l, words, rooms, f, w, r)
	}
}

// TestEachShortScript: all scripts of up to five of some entries, right and wrong.
func TestEachShortScript(t *testing.T) {
	entries := []api.StackOp{push(5), push(6), pop(0), pop(1), pop(2), pop(-1), set(0, 7), set(1, 8), {}}
	var all func(s script, more int)
	all = func(s script, more int) {
		s.check(t)
		if more == 0 || t.Failed() {
			return
		}
		for _, op := range entries {
			all(script{s.least, s.most, append(slices.Clone(s.l), op)}, more-1)
		}
	}
	for _, b := range [][2]int{{1, 1}, {1, 2}, {1, 3}, {2, 2}, {2, 3}, {1, 4}} {
		all(script{least: b[0], most: b[1]}, 5)
	}
}

// TestUpAndDown: pushes up to each height, and pops from there, for all small bounds.
func TestUpAndDown(t *testing.T) {
	for most := 1; most <= 24; most++ {
		for least := 1; least <= most; least++ {
			for height := 1; height <= most; height++ {
				for step := 1; step <= 3; step++ {
					l := pushes(height)
					for left := height; left > 0; left -= step {
						l = append(l, pop(min(step, left)), pop(0))
					}
					script{least, most, l}.check(t)
				}
			}
		}
	}
}

// TestRandomScripts go up and down, in turns of random length, and are wrong now and then.
func TestRandomScripts(t *testing.T) {
	r := rand.New(rand.NewSource(4))
	right, deep, shrunk := 0, 0, 0
	for range 4000 {
		s := randomScript(r)
		s.check(t)
		counts := s.counts()
		if s.fault(counts).Err != api.OK {
			continue
		}
		right++
		if len(counts) > 0 && slices.Max(counts) > 100 {
			deep++
		}
		if rooms := s.rooms(counts); !slices.IsSorted(rooms) {
			shrunk++
		}
	}
	if right < 1000 || right > 3500 || deep < 100 || shrunk < 500 {
		t.Errorf("%d of the scripts are right, %d of them deep, %d shrink: that tells too little", right, deep, shrunk)
	}
}

func randomScript(r *rand.Rand) script {
	top := []int{1, 4, 20, 90, api.MaxWords, api.MaxWords}[r.Intn(6)]
	s := script{most: 1 + r.Intn(top)}
	s.least = 1 + r.Intn(min(s.most, 1+r.Intn(top)))
	count, up := 0, true
	wrong := r.Intn(3) == 0
	turn := []int{10, 40, 200}[r.Intn(3)]
	for range r.Intn(900) {
		if r.Intn(turn) == 0 {
			up = !up
		}
		op := randomEntry(r, s.most, count, up)
		if wrong && r.Intn(100) == 0 {
			op = randomWrong(r, count)
		}
		s.l = append(s.l, op)
		if op.Kind == api.StPush {
			count++
		}
		if op.Kind == api.StPop {
			count -= op.N
		}
		count = max(0, min(count, s.most)) // behind what is refused anything may come
	}
	return s
}

// randomEntry is one that is not refused, with so many words.
func randomEntry(r *rand.Rand, most, count int, up bool) api.StackOp {
	v := r.Int63() - r.Int63()
	switch k := r.Intn(10); {
	case k == 0 && count > 0:
		return set(r.Intn(count), v)
	case k == 1 && up:
		return pop(r.Intn(min(count, 2) + 1))
	case k == 1:
		return pop(r.Intn(min(count, 1+r.Intn(20)) + 1))
	case count == 0 || up && count < most:
		return push(v)
	}
	return pop(1)
}

// randomWrong is one that is refused, or just not so.
func randomWrong(r *rand.Rand, count int) api.StackOp {
	near := count - 1 + r.Intn(3)
	return []api.StackOp{{Kind: r.Intn(7) - 2, N: near}, pop(near), pop(-1 - r.Intn(3)), set(near, 1), set(-1-r.Intn(3), 1), push(1)}[r.Intn(6)]
}
