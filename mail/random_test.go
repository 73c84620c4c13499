package mail_test

import (
	"math/rand"
	"slices"
	"testing"

	"yieldshape/api"
	"yieldshape/mail"
)

// script is a list of entries with what must come of it, worked out without a box: how many words there are follows from the kinds of the entries alone, and the k-th taking that is done answers the word of the k-th put that is done.
type script struct {
	places int
	l      []api.MailOp
}

// counts are how many words there are ahead of each entry, and in the end.
func (s script) counts() []int {
	out := []int{0}
	for i, op := range s.l {
		n := out[i] - 1
		if op.Put {
			n = out[i] + 1
		}
		out = append(out, max(0, min(n, s.places)))
	}
	return out
}

// outcome: an entry was done where it changed how many words there are.
func (s script) outcome(counts []int) ([]api.MailGot, []int64) {
	var came []int64
	for i, op := range s.l {
		if counts[i+1] > counts[i] {
			came = append(came, op.V)
		}
	}
	gone := 0
	var got []api.MailGot
	for i := range s.l {
		g := api.MailGot{OK: counts[i+1] != counts[i]}
		if counts[i+1] < counts[i] {
			g.V = came[gone]
			gone++
		}
		got = append(got, g)
	}
	return got, came[gone:]
}

func (s script) check(t *testing.T) {
	t.Helper()
	got, left, err := mail.Play(s.places, s.l)
	wantGot, wantLeft := s.outcome(s.counts())
	if err != api.OK || !slices.Equal(got, wantGot) || !slices.Equal(left, wantLeft) {
		t.Fatalf("Play(%d, %v) = %v, %v, %v; want %v, %v", s.places, s.l, got, left, err, wantGot, wantLeft)
	}
}

// TestEachShortScript: all scripts of up to twelve entries, each put of a word of its own.
func TestEachShortScript(t *testing.T) {
	for places := 1; places <= 5; places++ {
		for n := range 13 {
			for bits := range 1 << n {
				s := script{places: places}
				for i := range n {
					s.l = append(s.l, api.MailOp{Put: bits>>i&1 == 1, V: int64(10 + i)})
				}
				s.check(t)
			}
		}
	}
}

// TestRandomScripts fill and empty the box in turns of random length.
func TestRandomScripts(t *testing.T) {
	r := rand.New(rand.NewSource(5))
	full, empty, round := 0, 0, 0
	for range 4000 {
		s := randomScript(r)
		s.check(t)
		counts := s.counts()
		came := 0
		for i, op := range s.l {
			if op.Put && counts[i] == s.places {
				full++
			}
			if !op.Put && counts[i] == 0 {
				empty++
			}
			came += max(0, counts[i+1]-counts[i])
		}
		if came > 3*s.places {
			round++
		}
	}
	if full < 10000 || empty < 10000 || round < 2000 {
		t.Errorf("%d puts find the box full, %d takings find it empty, %d scripts go round: that tells too little", full, empty, round)
	}
}

func randomScript(r *rand.Rand) script {
	s := script{places: 1 + r.Intn(api.MaxCap)}
	turn := []int{3, 10, 40}[r.Intn(3)]
	fill := true
	for range r.Intn(400) {
		if r.Intn(turn) == 0 {
			fill = !fill
		}
		v := r.Int63() - r.Int63()
		if r.Intn(5) == 0 {
			v = int64(r.Intn(3) - 1)
		}
		s.l = append(s.l, api.MailOp{Put: fill == (r.Intn(5) > 0), V: v})
	}
	return s
}

// TestWiderBoxesRefuseNoMore: a put that a box takes is taken by a wider one too, where nothing is taken out ahead of it (and what comes first goes first in both).
func TestWiderBoxesRefuseNoMore(t *testing.T) {
	for places := 1; places < api.MaxCap; places++ {
		l := append(sends(1, 25), takes(25)...)
		slim, _, _ := mail.Play(places, l)
		wide, _, _ := mail.Play(places+1, l)
		for i, g := range slim {
			if g.OK && wide[i] != g {
				t.Errorf("entry %d: %v of a box of %d places, %v of one with a place more", i, g, places, wide[i])
			}
		}
	}
}
