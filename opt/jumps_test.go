package opt_test

import (
	"fmt"
	"testing"
)

// TestN1JumpsInBetween: no rule holds where a jump goes to one that it names, but the first.
func TestN1JumpsInBetween(t *testing.T) {
	for _, c := range []struct {
		text, put string
		size      int
	}{
		{"push 1, push 2, add", "push 3", 3}, {"push 1, push 2, lt", "truth 1", 3}, {"truth 1, truth 0, or", "truth 1", 3},
		{"push 1, drop", "", 2}, {"truth 1, drop", "", 2}, {"load 0, drop", "", 2}, {"push 1, neg", "push -1", 2},
		{"truth 1, not", "truth 0", 2}, {"truth 0, else 0", "jump 0", 2}, {"truth 1, else 0", "", 2}, {"jump 2", "", 1},
	} {
		left := 2 // where what follows behind what is put comes to
		if c.put == "" {
			left = 1
		}
		for _, jump := range []string{"jump", "load 1, else"} {
			// Never reached, but it counts.
			wantCode(t, fmt.Sprintf("end, %s, end, %s 1, end", c.text, jump), row("end", c.put, "end", jump+" 1", "end"))
			wantCode(t, fmt.Sprintf("end, %s, end, %s 0, end", c.text, jump), row("end", c.put, "end", jump+" 0", "end"))
			wantCode(t, fmt.Sprintf("end, %s, end, %s %d, end", c.text, jump, 1+c.size), row("end", c.put, "end", fmt.Sprintf("%s %d", jump, left), "end"))
			for n := 1; n < c.size; n++ {
				wantStays(t, fmt.Sprintf("end, %s, end, %s %d, end", c.text, jump, 1+n))
			}
		}
	}
}

// TestN1JumpsAhead: it doesn't matter whether they stand ahead or behind.
func TestN1JumpsAhead(t *testing.T) {
	wantCode(t, "jump 2, push 9, push 1, push 2, add, out, end", "jump 2, push 9, push 3, out, end")
	wantStays(t, "push 9, jump 4, end, push 1, push 2, mod, jump 9, end, end, out, end")
	wantStays(t, "push 9, jump 4, end, push 1, neg, out, end")
	wantStays(t, "push 9, recv 1, else 5, drop, push 1, neg, out, end")
	wantStays(t, "truth 1, jump 4, end, truth 0, not, out, end")
	wantStays(t, "truth 1, jump 4, end, truth 0, else 0, end")
	wantStays(t, "push 1, jump 4, end, push 2, drop, end")
}

// TestN1JumpsIntoItself: what a rule names counts too.
func TestN1JumpsIntoItself(t *testing.T) {
	wantStays(t, "end, truth 1, else 2, end")
	wantStays(t, "end, truth 0, else 2, end")
	wantCode(t, "end, truth 1, else 1, end", "end, end")
	wantCode(t, "end, truth 0, else 1, end", "end, jump 1, end")
	wantCode(t, "end, truth 1, else 3, end", "end, end")
	wantCode(t, "end, truth 0, else 3, end", "end, end")
}

// TestN1WhereJumpsGo: to what stands in the place of the instruction they went to, or to what follows.
func TestN1WhereJumpsGo(t *testing.T) {
	// To something that was put there.
	wantCode(t, "push 1, push 2, add, out, recv 1, else 0, end", "push 3, out, recv 1, else 0, end")
	wantCode(t, "recv 1, out, push 1, push 2, add, out, jump 2, end", "recv 1, out, push 3, out, jump 2, end")
	wantCode(t, "recv 1, else 6, push 1, push 2, add, out, push 3, neg, out, end", "recv 1, else 4, push 3, out, push -3, out, end")
	// Over what is gone.
	wantCode(t, "recv 1, else 6, push 1, push 2, add, out, end", "recv 1, else 4, push 3, out, end")
	wantCode(t, "recv 0, out, push 1, drop, jump 0, end", "recv 0, out, jump 0, end")
	wantCode(t, "push 1, drop, recv 0, out, jump 2, end", "recv 0, out, jump 0, end")
	// To nothing: what follows, however much is gone there, too.
	wantCode(t, "recv 0, out, push 1, drop, recv 0, out, jump 2, end", "recv 0, out, recv 0, out, jump 2, end")
	wantCode(t, "recv 0, out, push 1, drop, truth 1, drop, jump 7, recv 0, out, jump 2, end", "recv 0, out, recv 0, out, jump 2, end")
	wantCode(t, "recv 1, else 4, push 1, out, push 1, drop, end", "recv 1, else 4, push 1, out, end")
	wantCode(t, "recv 1, else 4, push 1, out, jump 5, end", "recv 1, else 4, push 1, out, end")
	wantCode(t, "end, push 5, drop, jump 1", "end, jump 1")
	wantCode(t, "jump 1, jump 2, jump 0", "jump 0")
	// Of a known else what is left goes there.
	wantCode(t, "truth 0, else 6, push 1, push 2, add, out, push 4, neg, out, end", "jump 3, push 3, out, push -4, out, end")
	wantCode(t, "push 1, drop, recv 0, out, truth 0, else 2, end", "recv 0, out, jump 0, end")
}

// TestN1JumpsThatAreGone hold nobody up any more.
func TestN1JumpsThatAreGone(t *testing.T) {
	wantCode(t, "push 7, truth 1, else 5, drop, push 8, neg, out, end", "push -8, out, end")
	wantCode(t, "push 7, push 1, push 2, lt, else 7, drop, push 8, neg, out, end", "push -8, out, end")
	wantCode(t, "end, push 7, neg, truth 1, else 2, end", "end, push -7, end")
	// Where it stays it holds them up, though what it went to is gone: it goes to what follows now.
	wantCode(t, "push 1, recv 1, else 5, drop, push 2, push 3, drop, neg, out, end", "push 1, recv 1, else 5, drop, push 2, neg, out, end")
	wantCode(t, "push 1, truth 1, else 5, drop, push 2, push 3, drop, neg, out, end", "push -2, out, end")
	wantCode(t, "push 1, truth 0, else 5, drop, push 2, push 3, drop, neg, out, end", "push 1, jump 4, drop, push 2, neg, out, end")
}

// TestN1Branches: what both ways come to stays.
func TestN1Branches(t *testing.T) {
	wantCode(t, "truth 1, else 4, push 1, jump 5, push 2, out, end", "push 1, jump 3, push 2, out, end")
	wantCode(t, "truth 0, else 4, push 1, jump 5, push 2, out, end", "jump 3, push 1, jump 4, push 2, out, end")
	wantCode(t, "truth 1, else 7, recv 0, push 2, mul, out, jump 0, end", "recv 0, push 2, mul, out, jump 0, end")
	wantCode(t, "truth 0, else 7, recv 0, push 2, mul, out, jump 0, end", "jump 6, recv 0, push 2, mul, out, jump 0, end")
	wantCode(t, "truth 0, else 4, push 1, drop, end", "end")
}
