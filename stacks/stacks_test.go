package stacks_test

import (
	"math"
	"slices"
	"testing"

	"yieldshape/api"
	"yieldshape/stacks"
)

// TestD1Bounds: min and most, at their bounds and beyond, whatever the entries are.
func TestD1Bounds(t *testing.T) {
	scripts := [][]api.StackOp{nil, {}, {push(1)}, {{}}, {pop(1)}, {push(1), pop(2)}}
	wrong := [][2]int{
		{0, 0}, {0, 1}, {0, 5}, {0, 400}, {-1, 5}, {-1, -1}, {math.MinInt, 5}, {math.MinInt, math.MaxInt}, {math.MinInt, math.MinInt},
		{1, 0}, {2, 1}, {5, 4}, {400, 399}, {401, 400}, {5, -1}, {1, math.MinInt}, {math.MaxInt, math.MinInt}, {math.MaxInt, 400},
		{1, 401}, {400, 401}, {401, 401}, {1, math.MaxInt}, {math.MaxInt, math.MaxInt},
	}
	for _, b := range wrong {
		for _, l := range scripts {
			wantFault(t, b[0], b[1], l, fault(api.ErrRange, 0))
		}
	}
	for _, b := range [][2]int{{1, 1}, {1, 2}, {2, 2}, {4, 5}, {5, 5}, {1, 400}, {399, 399}, {399, 400}, {400, 400}} {
		wantWords(t, b[0], b[1], nil)
		wantWords(t, b[0], b[1], []api.StackOp{})
		wantWords(t, b[0], b[1], []api.StackOp{push(7)}, 7)
		wantRooms(t, b[0], b[1], []api.StackOp{push(7)}, b[0])
	}
}

// TestD1EachBound: of all pairs round the bounds just those that are in them.
func TestD1EachBound(t *testing.T) {
	var round []int
	for i := -2; i <= 6; i++ {
		round = append(round, i)
	}
	for i := api.MaxWords - 3; i <= api.MaxWords+3; i++ {
		round = append(round, i)
	}
	for _, least := range round {
		for _, most := range round {
			if 1 <= least && least <= most && most <= 400 {
				wantWords(t, least, most, []api.StackOp{pop(0)})
			} else {
				wantFault(t, least, most, []api.StackOp{pop(0)}, fault(api.ErrRange, 0))
			}
		}
	}
}

func TestD1Kinds(t *testing.T) {
	for _, kind := range []int{0, -1, 4, 5, 100, math.MinInt, math.MaxInt} {
		// whatever stands in its fields, and on a full stack too
		for _, op := range []api.StackOp{{Kind: kind}, {Kind: kind, N: 1, V: 1}, {Kind: kind, N: -1}, {Kind: kind, N: 99}} {
			wantFault(t, 1, 2, []api.StackOp{op}, fault(api.ErrKind, 0))
			wantFault(t, 1, 2, []api.StackOp{push(1), op, {}}, fault(api.ErrKind, 1))
			wantFault(t, 1, 2, []api.StackOp{push(1), push(2), op, push(3)}, fault(api.ErrKind, 2))
			wantFault(t, 2, 1, []api.StackOp{op}, fault(api.ErrRange, 0))
		}
	}
}

func TestD1PushOntoAFullStack(t *testing.T) {
	for _, b := range [][2]int{{1, 1}, {1, 2}, {2, 2}, {1, 3}, {3, 3}, {2, 5}, {1, 7}, {3, 20}, {1, 400}, {7, 400}, {400, 400}} {
		most := b[1]
		wantWords(t, b[0], most, pushes(most-1), upTo(most-1)...)
		wantWords(t, b[0], most, pushes(most), upTo(most)...)
		wantFault(t, b[0], most, pushes(most+1), fault(api.ErrMuch, most))
		wantFault(t, b[0], most, pushes(most+9), fault(api.ErrMuch, most))
		// a word that went leaves place for one
		full := append(pushes(most), pop(1), push(-1))
		wantWords(t, b[0], most, full, append(upTo(most-1), -1)...)
		wantFault(t, b[0], most, append(full, push(-2)), fault(api.ErrMuch, most+2))
		// what doesn't add a word is not refused
		wantWords(t, b[0], most, append(pushes(most), set(most-1, -1), pop(0)), append(upTo(most-1), -1)...)
		wantFault(t, b[0], most, append(pushes(most), set(0, -1), pop(0), push(1)), fault(api.ErrMuch, most+2))
	}
}

func TestD1PopOfMoreThanThereAre(t *testing.T) {
	for _, count := range []int{0, 1, 2, 3, 5, 8, 39, 40} {
		ahead := pushes(count)
		for _, n := range []int{0, 1, count / 2, count - 1, count} {
			if 0 <= n && n <= count {
				wantWords(t, 1, 40, append(ahead, pop(n)), upTo(count-n)...)
			}
		}
		for _, n := range []int{-1, -2, -count - 1, math.MinInt, count + 1, count + 2, 2*count + 1, 401, math.MaxInt} {
			wantFault(t, 1, 40, append(ahead, pop(n)), fault(api.ErrRange, count))
			wantFault(t, 1, 40, append(ahead, pop(n), api.StackOp{}), fault(api.ErrRange, count))
		}
	}
	// how many there are, not how many were pushed
	wantWords(t, 1, 40, append(pushes(9), pop(4), pop(5)))
	wantFault(t, 1, 40, append(pushes(9), pop(4), pop(6)), fault(api.ErrRange, 10))
	// nor for how many there is room
	wantFault(t, 8, 40, append(pushes(3), pop(4)), fault(api.ErrRange, 3))
	wantFault(t, 8, 40, append(pushes(3), pop(8)), fault(api.ErrRange, 3))
}

func TestD1SetOfAWordThatIsNotThere(t *testing.T) {
	for _, count := range []int{0, 1, 2, 3, 5, 8, 39, 40} {
		ahead := pushes(count)
		for _, n := range []int{0, 1, count / 2, count - 1} {
			if 0 <= n && n < count {
				want := upTo(count)
				want[n] = -9
				wantWords(t, 1, 40, append(ahead, set(n, -9)), want...)
			}
		}
		for _, n := range []int{-1, -2, -count, -count - 1, math.MinInt, count, count + 1, 401, math.MaxInt} {
			if n < 0 || n >= count {
				wantFault(t, 1, 40, append(ahead, set(n, -9)), fault(api.ErrRange, count))
				wantFault(t, 1, 40, append(ahead, set(n, -9), api.StackOp{}), fault(api.ErrRange, count))
			}
		}
	}
	// a word that went is not there, though its place is
	wantWords(t, 1, 40, append(pushes(3), pop(1), set(1, -9)), 1, -9)
	wantFault(t, 1, 40, append(pushes(3), pop(1), set(2, -9)), fault(api.ErrRange, 4))
	wantFault(t, 8, 40, append(pushes(3), set(3, -9)), fault(api.ErrRange, 3))
	wantFault(t, 8, 40, append(pushes(3), set(7, -9)), fault(api.ErrRange, 3))
}

// TestD1TheFirstOneIsTold, whatever is wrong behind it.
func TestD1TheFirstOneIsTold(t *testing.T) {
	wrong := []struct {
		op  api.StackOp
		err api.Errno
	}{
		{api.StackOp{}, api.ErrKind}, {push(4), api.ErrMuch}, {pop(4), api.ErrRange}, {pop(-1), api.ErrRange}, {set(3, 0), api.ErrRange}, {set(-1, 0), api.ErrRange},
	}
	for _, a := range wrong {
		for _, b := range wrong {
			wantFault(t, 1, 3, append(pushes(3), a.op, b.op), fault(a.err, 3))
			wantFault(t, 1, 3, append(pushes(3), set(0, 5), a.op, b.op), fault(a.err, 4))
		}
	}
}

func TestD1Words(t *testing.T) {
	const top, low = math.MaxInt64, math.MinInt64
	wantWords(t, 2, 9, []api.StackOp{push(3), push(1), push(2)}, 3, 1, 2)
	wantWords(t, 1, 9, []api.StackOp{push(top), push(low), push(0), push(-1)}, top, low, 0, -1)
	wantWords(t, 1, 9, []api.StackOp{push(0), push(0)}, 0, 0)
	wantWords(t, 1, 9, []api.StackOp{push(1), push(2), push(3), set(0, low), set(2, top), set(0, 7)}, 7, 2, top)
	wantWords(t, 1, 9, []api.StackOp{push(1), push(2), push(3), pop(2), push(4)}, 1, 4)
	wantWords(t, 1, 9, []api.StackOp{push(1), set(0, 5), pop(1), push(2)}, 2)
	wantWords(t, 1, 9, []api.StackOp{push(1), pop(1)})
	wantWords(t, 1, 9, []api.StackOp{pop(0), pop(0)})
	// the words stay as the room grows and shrinks
	l := append(pushes(100), set(0, -1), set(24, -2), pop(75), pop(5), set(19, -3), pop(10), pop(4))
	wantWords(t, 1, 400, l, -1, 2, 3, 4, 5, 6)
	wantWords(t, 1, 400, append(pushes(100), set(9, -9), pop(90), pop(0), pop(0)), 1, 2, 3, 4, 5, 6, 7, 8, 9, -9)
}

// TestD1FieldsThatAKindHasNot mean nothing (Z5).
func TestD1FieldsThatAKindHasNot(t *testing.T) {
	for _, n := range []int{math.MinInt, -1, 0, 1, 99, math.MaxInt} {
		l := []api.StackOp{{Kind: api.StPush, N: n, V: 5}, {Kind: api.StPush, N: n, V: 6}, {Kind: api.StPop, N: 1, V: int64(n)}}
		wantWords(t, 1, 4, l, 5)
		wantRooms(t, 1, 4, l, 1, 2, 2)
	}
}

// TestArgumentsAreOnlyRead: nor is the spare room behind them changed, or looked at (Z2).
func TestArgumentsAreOnlyRead(t *testing.T) {
	whole := append(pushes(9), set(0, 8), pop(6), api.StackOp{}, push(1), pop(99))
	before := slices.Clone(whole)
	for n := range len(whole) {
		stacks.Play(1, 20, whole[:n])
		if !slices.Equal(whole, before) {
			t.Fatalf("Play of the first %d entries makes %v of %v", n, whole, before)
		}
	}
	wantWords(t, 1, 20, whole[:11], 8, 2, 3)
}

// TestAnswersAreTheCallers: whoever changes an answer, or what was handed in, changes no other answer (Z1, Z2).
func TestAnswersAreTheCallers(t *testing.T) {
	l := append(pushes(9), pop(2))
	words, rooms, _ := stacks.Play(2, 20, l)
	others, otherRooms, _ := stacks.Play(2, 20, l)
	clear(l)
	others, otherRooms = others[:cap(others)], otherRooms[:cap(otherRooms)]
	for i := range others {
		others[i] = -1
	}
	for i := range otherRooms {
		otherRooms[i] = -1
	}
	if !slices.Equal(words, upTo(7)) || !slices.Equal(rooms, []int{2, 2, 4, 4, 8, 8, 8, 8, 16, 16}) {
		t.Errorf("the first answer becomes %v, %v", words, rooms)
	}
	wantWords(t, 2, 20, append(pushes(9), pop(2)), upTo(7)...)
}
