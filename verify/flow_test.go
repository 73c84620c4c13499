package verify_test

import (
	"fmt"
	"slices"
	"strings"
	"testing"

	"yieldshape/api"
)

// TestG3Beginning: the stack is empty, and just the parameters have something.
func TestG3Beginning(t *testing.T) {
	wantFlow(t, "end", api.OK, 0)
	wantFlow(t, "drop, end", api.ErrStuck, 0)
	wantFlow(t, "load 0, drop, end", api.ErrState, 0)
	for n := range api.MaxArgs + 1 {
		u := fn(number, "load 0, ret", slices.Repeat([]int{number}, n)...)
		u.Locals = append(u.Locals, number, number)
		for i := range u.Locals {
			u.Code[0].A = i
			err := api.OK
			if i >= n {
				err = api.ErrState
			}
			wantFlowOf(t, fmt.Sprint("parameter ", i, " of ", n), u, err, 0)
		}
	}
}

// TestG3NothingFollows: behind the last one there is none. What it needs is told ahead of that.
func TestG3NothingFollows(t *testing.T) {
	for _, last := range []string{"push 1", "truth 0", "recv 1", "call 3"} {
		wantFlow(t, last, api.ErrRange, 0)
		wantFlow(t, "jump 1, "+last, api.ErrRange, 1)
	}
	for _, last := range []string{"store 0", "drop", "neg", "out", "send 0"} {
		wantFlow(t, last, api.ErrStuck, 0)
		wantFlow(t, "push 1, "+last, api.ErrRange, 1)
	}
	wantFlow(t, "truth 1, else 0", api.ErrRange, 1)
	wantFlow(t, "push 1, push 1, add", api.ErrRange, 2)
	wantFlow(t, "truth 1, start 0, alive", api.ErrRange, 2)
	wantFlow(t, "truth 1, start 0, truth 1, resume", api.ErrRange, 3)
	wantFlow(t, "jump 0", api.OK, 0)
	wantFlow(t, "end", api.OK, 0)
	wantFlowOf(t, "a generator", gen(number, truth, "truth 1, yield"), api.ErrRange, 1)
	wantFlowOf(t, "a function", fn(truth, "jump 2, ret, truth 1, jump 1"), api.OK, 0)
}

// TestG3NeverReached: what is never come to isn't looked at.
func TestG3NeverReached(t *testing.T) {
	wantFlow(t, "end, drop", api.OK, 0)
	wantFlow(t, "jump 3, add, ret, end", api.OK, 0)
	wantFlow(t, "truth 1, else 4, jump 4, yield, end", api.OK, 0)
	wantFlow(t, "jump 2, drop, end", api.OK, 0)
	wantFlow(t, "jump 2, end, jump 1", api.OK, 0)
}

// TestG3SameStacks: wherever one comes to by two ways the stacks are the same.
func TestG3SameStacks(t *testing.T) {
	wantFlow(t, "push 1, jump 0", api.ErrFit, 1)
	wantFlow(t, "push 1, drop, jump 0", api.OK, 0)
	wantFlow(t, "truth 1, else 3, push 0, end", api.ErrFit, 2)
	wantFlow(t, "truth 1, else 4, push 1, jump 5, push 2, out, end", api.OK, 0)
	wantFlow(t, "truth 1, else 4, push 1, jump 5, truth 1, out, end", api.ErrFit, 3)
	wantFlow(t, "truth 1, else 4, truth 1, jump 5, push 1, out, end", api.ErrFit, 3)
	// Another one below, the same on top.
	wantFlow(t, "truth 1, else 4, push 1, jump 5, truth 1, push 1, out, drop, end", api.ErrFit, 3)
	wantFlow(t, "truth 1, else 4, push 1, jump 5, push 2, push 1, out, drop, end", api.OK, 0)
	// One more, and one less.
	wantFlow(t, "truth 1, else 5, push 1, push 1, jump 6, push 1, out, end", api.ErrFit, 4)
	wantFlow(t, "truth 1, else 4, push 1, jump 6, push 1, push 1, out, drop, end", api.ErrFit, 3)
	// What was started by another unit.
	wantFlow(t, "truth 1, else 6, truth 1, start 0, drop, jump 0, truth 1, start 0, jump 4", api.OK, 0)
	wantFlow(t, "truth 1, else 6, truth 1, start 0, drop, jump 0, push 1, truth 1, truth 1, start 0, start 1, jump 4", api.ErrFit, 11)
	// The second time round nothing is new.
	wantFlow(t, "push 1, truth 1, else 1, drop, end", api.OK, 0)
	wantFlow(t, "push 1, truth 1, else 0, drop, end", api.ErrFit, 2)
	wantFlow(t, "truth 1, else 1, end", api.ErrFit, 1)
	// At A first, then at the next one.
	wantFlow(t, "truth 1, truth 1, else 0", api.ErrFit, 2)
	wantFlow(t, "truth 1, else 0", api.ErrRange, 1)
}

// TestG3DeepStacks are held against each other from the bottom to the top.
func TestG3DeepStacks(t *testing.T) {
	const deep = 50
	for odd := range deep + 1 {
		side := func(at int) string {
			l := slices.Repeat([]string{"push 1"}, deep)
			if at < deep {
				l[at] = "truth 1"
			}
			return strings.Join(l, ", ")
		}
		other := fmt.Sprintf("truth 1, else %d, %s, jump %d, %s, %s, end", 3+deep, side(deep), 3+2*deep, side(odd), repeated("drop", deep))
		err := api.ErrFit
		if odd == deep {
			err = api.OK
		}
		// The jump comes to where the other side, which was in the row ahead of this one, went on.
		wantFlow(t, other, err, 2+deep)
	}
}

// TestG3WhatLocalsHave: a local has something where it has on each way there.
func TestG3WhatLocalsHave(t *testing.T) {
	wantFlow(t, "push 1, store 0, load 0, out, end", api.OK, 0)
	wantFlow(t, "push 1, store 0, load 1, out, end", api.ErrState, 2)
	wantFlow(t, "truth 1, else 4, push 1, store 0, load 0, out, end", api.ErrState, 4)
	wantFlow(t, "truth 1, else 5, push 1, store 0, jump 7, push 2, store 0, load 0, out, end", api.OK, 0)
	wantFlow(t, "truth 1, else 5, push 1, store 0, jump 7, truth 1, store 1, load 0, out, end", api.ErrState, 7)
	wantFlow(t, "truth 1, else 5, push 1, store 0, jump 7, truth 1, store 1, load 1, out, end", api.ErrState, 7)
	// A way that comes later, with less.
	wantFlow(t, "truth 1, else 7, push 1, store 0, load 0, out, end, push 1, drop, push 1, drop, jump 4", api.ErrState, 4)
	wantFlow(t, "truth 1, else 7, push 1, store 0, load 0, out, end, push 1, drop, push 1, store 0, jump 4", api.OK, 0)
	// It is lost further on, behind what was gone through already.
	wantFlow(t, "truth 1, else 10, push 1, store 0, truth 1, drop, truth 1, drop, load 0, jump 18, push 1, drop, push 1, drop, push 1, drop, jump 4, end, out, end", api.ErrState, 8)
	// Round a loop: what is stored within isn't there at its beginning.
	wantFlow(t, "truth 1, else 5, push 1, store 0, jump 0, end", api.OK, 0)
	wantFlow(t, "truth 1, else 5, push 1, store 0, jump 0, load 0, out, end", api.ErrState, 5)
	wantFlow(t, "push 0, store 0, truth 1, else 8, load 0, neg, store 0, jump 2, load 0, out, end", api.OK, 0)
	// A second store takes nothing away, nor does a load.
	wantFlow(t, "push 1, store 0, load 0, store 0, load 0, load 0, add, out, end", api.OK, 0)
}

// TestG3EachLocalForItself: of as many as there may be just those are lost that another way has not.
func TestG3EachLocalForItself(t *testing.T) {
	const all = api.MaxLocals
	for _, lost := range []int{0, 1, 31, 32, 62, 63, 64, 65, 126, 127, 128, 190, 191, 192, 193, 198, 199} {
		var text strings.Builder
		for n := range all {
			if n != lost {
				fmt.Fprintf(&text, "push 1, store %d, ", n)
			}
		}
		at := 2 * (all - 1)
		fmt.Fprintf(&text, "truth 1, else %d, push 1, store %d, truth 1, drop, truth 1, drop", at+4, lost)
		for n := range all {
			fmt.Fprintf(&text, ", load %d, drop", n)
		}
		locals := slices.Repeat([]int{number}, all)
		wantFlowOf(t, fmt.Sprint("local ", lost), task(text.String()+", end", locals...), api.ErrState, at+8+2*lost)
		// Where it is given something once more all is well.
		good := fmt.Sprintf(", push 1, store %d, end", lost)
		wantFlowOf(t, fmt.Sprint("local ", lost, ", stored again"), task(strings.Replace(text.String(), fmt.Sprintf("load %d, drop", lost), fmt.Sprintf("push 1, store %d", lost), 1)+good, locals...), api.OK, 0)
	}
}

// TestG3Row: what comes to the row first is looked at first: of two that are wrong that one is told.
func TestG3Row(t *testing.T) {
	// OpElse goes on at A, then at the next one.
	wantFlow(t, "truth 1, else 3, drop, neg", api.ErrStuck, 3)
	wantFlow(t, "truth 1, else 4, jump 3, drop, neg", api.ErrStuck, 4)
	wantFlow(t, "truth 1, else 4, drop, end, jump 5, neg", api.ErrStuck, 2)
	// Step by step, in turn.
	wantFlow(t, "truth 1, else 5, push 1, drop, drop, push 1, drop, drop", api.ErrStuck, 7)
	wantFlow(t, "truth 1, else 5, push 1, drop, drop, jump 6, push 1, drop, drop", api.ErrStuck, 4)
	// What has lost something comes behind those that are in the row already.
	const lost = "truth 1, else 7, push 1, store 0, load 0, drop, end, truth 1, drop, truth 1, else 12, jump 4"
	wantFlow(t, lost+", end", api.ErrState, 4)
	wantFlow(t, lost+", neg", api.ErrStuck, 12)
	wantFlow(t, lost+", jump 13, neg", api.ErrStuck, 13)
	wantFlow(t, lost+", jump 13, jump 14, neg", api.ErrState, 4)
	// What loses something while it is in the row is looked at where it stands there, with what is left.
	const early = "truth 1, else 6, push 1, store 0, load 0, jump 9, truth 1, else 11, jump 4, drop, end"
	wantFlow(t, early+", neg", api.ErrStuck, 11)
	wantFlow(t, early+", jump 12, neg", api.ErrState, 4)
}

// TestG3LostTogether: who loses two things at once comes to the row once, and loses them further on together.
func TestG3LostTogether(t *testing.T) {
	const (
		give = "truth 1, else 9, push 1, store 0, truth 1, store 1, jump 7, jump 8, end, "
		take = "push 1, drop, push 1, drop, push 1, drop, push 1, drop, jump 7"
	)
	wantFlow(t, give+take, api.OK, 0)
	for at, word := range []string{"load 0", "load 1"} {
		text := strings.Replace(give, "jump 8, end", "jump 18, end", 1) + take + ", " + word + ", drop, end"
		wantFlow(t, text, api.ErrState, 18)
		wantFlow(t, strings.Replace(text, take, strings.Replace(take, "push 1, drop", []string{"push 1, store 0", "truth 1, store 1"}[at], 1), 1), api.OK, 0)
	}
}
