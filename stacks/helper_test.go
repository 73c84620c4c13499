package stacks_test

import (
	"slices"
	"testing"

	"yieldshape/api"
	"yieldshape/stacks"
)

func push(v int64) api.StackOp { return api.StackOp{Kind: api.StPush, V: v} }

func pop(n int) api.StackOp { return api.StackOp{Kind: api.StPop, N: n} }

func set(n int, v int64) api.StackOp { return api.StackOp{Kind: api.StSet, N: n, V: v} }

// pushes are n of them, of 1, 2, 3 and so on.
func pushes(n int) []api.StackOp {
	var l []api.StackOp
	for i := range n {
		l = append(l, push(int64(i)+1))
	}
	return l
}

func pops(n int) []api.StackOp { return slices.Repeat([]api.StackOp{pop(1)}, n) }

// upTo are the words that as many pushes lay.
func upTo(n int) []int64 {
	var words []int64
	for i := range n {
		words = append(words, int64(i)+1)
	}
	return words
}

func fault(err api.Errno, at int) api.Fault { return api.Fault{Err: err, At: at} }

func wantFault(t *testing.T, least, most int, l []api.StackOp, want api.Fault) {
	t.Helper()
	words, rooms, f := stacks.Play(least, most, l)
	if f != want || len(words) != 0 || len(rooms) != 0 {
		t.Errorf("Play(%d, %d, %v) = %v, %v, %v; want nothing beside %v", least, most, l, words, rooms, f, want)
	}
}

func wantWords(t *testing.T, least, most int, l []api.StackOp, want ...int64) {
	t.Helper()
	words, rooms, f := stacks.Play(least, most, l)
	if f != (api.Fault{}) || !slices.Equal(words, want) {
		t.Errorf("Play(%d, %d, %v) = %v, _, %v; want %v", least, most, l, words, f, want)
	}
	if len(rooms) != len(l) {
		t.Errorf("Play(%d, %d, %v): %d rooms; want one an entry", least, most, l, len(rooms))
	}
}

func wantRooms(t *testing.T, least, most int, l []api.StackOp, want ...int) {
	t.Helper()
	_, rooms, f := stacks.Play(least, most, l)
	if f != (api.Fault{}) || !slices.Equal(rooms, want) {
		t.Errorf("Play(%d, %d, %v) = _, %v, %v; want %v", least, most, l, rooms, f, want)
	}
}

// wantLater: what the rooms are after the entries that come behind ahead.
func wantLater(t *testing.T, least, most int, ahead, l []api.StackOp, want ...int) {
	t.Helper()
	_, rooms, f := stacks.Play(least, most, slices.Concat(ahead, l))
	if f != (api.Fault{}) || len(rooms) != len(ahead)+len(l) || !slices.Equal(rooms[len(ahead):], want) {
		t.Errorf("Play(%d, %d, .. and %v) = _, %v, %v; want %v in the end", least, most, l, rooms, f, want)
	}
}
