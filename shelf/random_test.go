package shelf_test

import (
	"math"
	"math/rand"
	"slices"
	"testing"

	"yieldshape/api"
	"yieldshape/shelf"
)

// slow are programs that go on for as long as a word says.
var slow = []string{"collatz", "fib", "prime", "rounds"}

// scales are how great words come: each has words of those ahead of it, too.
const (
	little = iota
	middling
	great
)

func word(r *rand.Rand, scale int) int64 {
	odd := []int64{math.MinInt64, math.MaxInt64, -1, 0, 1, 2}
	switch n := r.Intn(10); {
	case n < 5 || scale == little:
		return int64(r.Intn(12)) - 3
	case n < 8 || scale == middling:
		return int64(r.Intn(120))
	case n == 8:
		return int64(r.Uint64())
	}
	return odd[r.Intn(len(odd))]
}

// randomFeeds are such as that program may be fed with.
func randomFeeds(r *rand.Rand, name string, boxes []api.BoxInfo) [][]int64 {
	scales := 1 + great
	if slices.Contains(slow, name) {
		scales = 1 + middling
	}
	var out [][]int64
	for _, b := range boxes {
		feed, scale := make([]int64, r.Intn(45)), r.Intn(scales)
		for i := range feed {
			feed[i] = word(r, scale)
			if b.Type == 2 {
				feed[i] &= 1
			}
		}
		out = append(out, feed)
	}
	return out
}

// soFar: what a task did that was stopped by MaxSolo steps is the beginning of what it would do.
func soFar(got, want api.Report) bool {
	if got.Steps != api.MaxSolo || len(got.Out) > len(want.Out) || !slices.Equal(got.Out, want.Out[:len(got.Out)]) {
		return false
	}
	for n := range got.Took {
		if got.Took[n] > want.Took[n] || len(got.Sent[n]) > len(want.Sent[n]) {
			return false
		}
	}
	return true
}

// TestRandomFeeds: each program does what is reckoned by hand.
func TestRandomFeeds(t *testing.T) {
	r := rand.New(rand.NewSource(12))
	came := map[[2]int]int{}
	for _, name := range names {
		boxes := module(t, name).Boxes
		for range 300 {
			fed := randomFeeds(r, name, boxes)
			want := byHand(name, fed)
			got, err := shelf.Ask(name, fed)
			if err != api.OK {
				t.Fatalf("Ask(%q, %v): %v", name, fed, err)
			}
			came[[2]int{got.State, got.Trap}]++
			fits := got.State == api.Ready && soFar(got, want)
			if want.Steps = got.Steps; !fits && !sameReports(got, want) {
				t.Fatalf("Ask(%q, %v) = %+v; want %+v", name, fed, got, want)
			}
		}
	}
	for _, way := range [][2]int{{api.Ready, 0}, {api.Waiting, 0}, {api.Done, 0}, {api.Trapped, api.TrapStack}, {api.Trapped, api.TrapMany}} {
		if came[way] < 50 {
			t.Errorf("state and trap %v come %d times: that tells too little", way, came[way])
		}
	}
}
