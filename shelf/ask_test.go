package shelf_test

import (
	"math"
	"slices"
	"testing"

	"yieldshape/api"
	"yieldshape/shelf"
	"yieldshape/vm"
)

// TestL1Asked: each program of one box does what its name says.
func TestL1Asked(t *testing.T) {
	wantOut(t, "average", feeds([]int64{4, 8, 0, -12, 7}), 4, 6, 4, 0, 1)
	wantOut(t, "bits", feeds([]int64{0, 1, 255, 256, -1, math.MaxInt64}), 0, 1, 8, 1, 0, 63)
	wantOut(t, "changes", feeds([]int64{5, 5, 5, 2, 7, 7, 1}), 5, 3, 2, 1, 7, 2)
	wantOut(t, "collatz", feeds([]int64{1, 2, 3, 27, 0}), 0, 1, 7, 111, 0)
	wantOut(t, "dedupe", feeds([]int64{5, 5, 5, 2, 2, 5}), 5, 2, 5)
	wantOut(t, "digits", feeds([]int64{0, 7, 1234, -12, math.MaxInt64}), 0, 7, 10, 0, 88)
	wantOut(t, "double", feeds([]int64{7, -7, 1 << 62}), 14, -14, math.MinInt64)
	wantOut(t, "evens", feeds([]int64{1, 2, -3, -4, 0}), 2, -4, 0)
	wantOut(t, "fact", feeds([]int64{-1, 0, 5, 20}), 1, 1, 120, 2432902008176640000)
	wantOut(t, "fib", feeds([]int64{3, 0, -1, 4}), 0, 1, 1, 2, 3, 5, 8)
	wantOut(t, "gcd", feeds([]int64{12, 18, 7, 0, 0, 0, 9}), 6, 7, 0)
	wantOut(t, "greatest", feeds([]int64{3, 1, 4, 4, 9, -2}), 3, 3, 4, 4, 9, 9)
	wantOut(t, "pairs", feeds([]int64{9, 4, 4, 9, 1}), 5, -5)
	wantOut(t, "power", feeds([]int64{2, 10, 3, 0, -2, 3, 5, -1}), 1024, 1, -8, 1)
	wantOut(t, "prime", feeds([]int64{-7, 0, 1, 2, 9, 97, 91}), 0, 0, 0, 1, 0, 1, 0)
	wantOut(t, "rounds", feeds([]int64{4, 0, -2, 101}), 6, 0, 0, 5050)
	wantOut(t, "sums", feeds([]int64{1, -3, 10, math.MaxInt64}), 1, -2, 8, math.MinInt64+7)
	wantOut(t, "turns", feeds([]int64{10, 10, 20}), 11, 9, 21)
	wantOut(t, "until", feeds([]int64{3, -3}), 3, -3)
	wantOut(t, "window", feeds([]int64{1, 2, 3, 4, 5}), 6, 9, 12)
}

// TestL1AskedTwoBoxes: which of them is waited for hangs on which is the shorter one.
func TestL1AskedTwoBoxes(t *testing.T) {
	wantOut(t, "gate", feeds([]int64{5, 6, 7}, []int64{1, 0, 1, 1}), 5, 7)
	wantOut(t, "merge", feeds([]int64{1, 4, 4}, []int64{2, 4, 9}), 1, 2, 4, 4)
	wantOut(t, "zip", feeds([]int64{1, 2}, []int64{10, 20, 30}), 11, 22)
	lists := [][]int64{nil, nil}
	wantReport(t, "zip", feeds([]int64{1, 2}, []int64{10}), api.Report{State: api.Waiting, Box: 1, Out: []int64{11}, Sent: lists, Took: []int{2, 1}, Steps: 10})
	wantReport(t, "gate", feeds([]int64{8}, nil), api.Report{State: api.Waiting, Box: 1, Sent: lists, Took: []int{1, 0}, Steps: 4})
	wantReport(t, "merge", feeds(nil, []int64{8}), api.Report{State: api.Waiting, Sent: lists, Took: []int{0, 0}})
}

// TestL1FirstTask: of programs with several tasks it is the one that is run.
func TestL1FirstTask(t *testing.T) {
	r, err := shelf.Ask("pingpong", feeds([]int64{77}, []int64{50, 100, 3}))
	if err != api.OK || r.State != api.Done || !slices.Equal(r.Out, []int64{50, 100}) || !slices.Equal(r.Sent[0], []int64{1, 50}) || len(r.Sent[1]) != 0 || !slices.Equal(r.Took, []int{0, 2}) {
		t.Errorf("pingpong: %+v, %v", r, err)
	}
	r, err = shelf.Ask("sieve", feeds(nil, nil, nil))
	if err != api.OK || r.State != api.Done || len(r.Out) != 0 || len(r.Sent[0]) != 24 || r.Sent[0][0] != 2 || r.Sent[0][23] != 25 || len(r.Sent[1])+len(r.Sent[2]) != 0 {
		t.Errorf("sieve: %+v, %v", r, err)
	}
}

// TestL1AtTheirEnd: what comes behind is not taken any more.
func TestL1AtTheirEnd(t *testing.T) {
	r, err := shelf.Ask("until", feeds([]int64{3, 4, 0, 5}))
	if err != api.OK || r.State != api.Done || !slices.Equal(r.Out, []int64{3, 4}) || !slices.Equal(r.Took, []int{3}) {
		t.Errorf("until: %+v, %v", r, err)
	}
}

// TestL1Traps: too many units at work, and too many that were started.
func TestL1Traps(t *testing.T) {
	wantOut(t, "fact", feeds([]int64{39}), product(39))
	wantTrap(t, "fact", []int64{3, 40, 2}, api.TrapStack, 2, 6)
	wantOut(t, "rounds", feeds(slices.Repeat([]int64{2}, 29)), slices.Repeat([]int64{1}, 29)...)
	wantTrap(t, "rounds", slices.Repeat([]int64{2}, 31), api.TrapMany, 30, slices.Repeat([]int64{1}, 29)...)
}

func product(n int64) int64 {
	p := int64(1)
	for i := int64(2); i <= n; i++ {
		p *= i
	}
	return p
}

// wantTrap: a program of one box is trapped, so many words taken, with that put out.
func wantTrap(t *testing.T, name string, feed []int64, trap, took int, out ...int64) {
	t.Helper()
	r, err := shelf.Ask(name, feeds(feed))
	if err != api.OK || r.State != api.Trapped || r.Trap != trap || !slices.Equal(r.Took, []int{took}) || !slices.Equal(r.Out, out) {
		t.Errorf("Ask(%q, %v) = %+v, %v; want trap %d, %d words taken, and %v out", name, feed, r, err, trap, took, out)
	}
}

// TestL1HowManySteps: double takes 7 of a word, and 2 more to wait: just MaxSolo of 714 words.
func TestL1HowManySteps(t *testing.T) {
	for words, state := range map[int]int{713: api.Waiting, 714: api.Waiting, 715: api.Ready, 2000: api.Ready} {
		did := min(words, 714)
		want := api.Report{State: state, Out: slices.Repeat([]int64{6}, did), Sent: [][]int64{nil}, Took: []int{did}, Steps: 2 + 7*did}
		wantReport(t, "double", feeds(slices.Repeat([]int64{3}, words)), want)
	}
}

func TestL1WrongFeeds(t *testing.T) {
	for _, name := range names {
		boxes := len(module(t, name).Boxes)
		for n := range 5 {
			if n != boxes {
				wantErr(t, name, make([][]int64, n), api.ErrMany)
			}
		}
	}
	wantErr(t, "gate", feeds([]int64{1}, []int64{1, 0, 2}), api.ErrType)
	wantErr(t, "gate", feeds(nil, []int64{-1}), api.ErrType)
	wantErr(t, "gate", feeds([]int64{1}, []int64{2}, nil), api.ErrMany)
}

// TestL1AskIsSolo: of the first task, with MaxSolo steps.
func TestL1AskIsSolo(t *testing.T) {
	for _, name := range names {
		m := module(t, name)
		for _, fed := range [][][]int64{nil, feeds(nil), feeds([]int64{6, 3, 2}), feeds([]int64{6, 3}, []int64{1, 0}), feeds(nil, []int64{9}), feeds(nil, nil, []int64{4})} {
			want, err := vm.Solo(m, 0, fed, api.MaxSolo)
			if err != api.OK {
				wantErr(t, name, fed, err)
			} else {
				wantReport(t, name, fed, want)
			}
		}
	}
}
