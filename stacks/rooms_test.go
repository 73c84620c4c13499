package stacks_test

import (
	"slices"
	"testing"

	"yieldshape/api"
	"yieldshape/stacks"
)

func TestD1RoomGrows(t *testing.T) {
	wantRooms(t, 1, 400, nil)
	wantRooms(t, 1, 400, pushes(2), 1, 2)
	wantRooms(t, 1, 400, pushes(9), 1, 2, 4, 4, 8, 8, 8, 8, 16)
	wantRooms(t, 2, 400, pushes(5), 2, 2, 4, 4, 8)
	wantRooms(t, 3, 400, pushes(13), 3, 3, 3, 6, 6, 6, 12, 12, 12, 12, 12, 12, 24)
	wantRooms(t, 5, 400, pushes(11), 5, 5, 5, 5, 5, 10, 10, 10, 10, 10, 20)
	wantLater(t, 1, 400, pushes(127), pushes(3), 128, 256, 256)
	wantLater(t, 25, 400, pushes(199), pushes(2), 200, 400)
	// full is not yet without room
	wantRooms(t, 2, 8, append(pushes(2), set(1, 0), pop(0), push(3)), 2, 2, 2, 2, 4)
}

func TestD1MostKeepsTheRoomLower(t *testing.T) {
	wantRooms(t, 1, 1, pushes(1), 1)
	wantRooms(t, 1, 2, pushes(2), 1, 2)
	wantRooms(t, 1, 3, pushes(3), 1, 2, 3)
	wantRooms(t, 2, 3, pushes(3), 2, 2, 3)
	wantRooms(t, 3, 3, pushes(3), 3, 3, 3)
	wantRooms(t, 4, 5, pushes(5), 4, 4, 4, 4, 5)
	wantRooms(t, 1, 7, pushes(7), 1, 2, 4, 4, 7, 7, 7)
	wantRooms(t, 1, 8, pushes(8), 1, 2, 4, 4, 8, 8, 8, 8)
	wantRooms(t, 1, 9, pushes(9), 1, 2, 4, 4, 8, 8, 8, 8, 9)
	wantRooms(t, 3, 11, pushes(7), 3, 3, 3, 6, 6, 6, 11)
	wantRooms(t, 3, 12, pushes(7), 3, 3, 3, 6, 6, 6, 12)
	wantRooms(t, 3, 13, pushes(7), 3, 3, 3, 6, 6, 6, 12)
	wantLater(t, 1, 400, pushes(255), pushes(2), 256, 400)
	wantLater(t, 1, 400, pushes(398), pushes(2), 400, 400)
	wantLater(t, 201, 400, pushes(200), pushes(2), 201, 400)
	wantLater(t, 199, 400, pushes(198), pushes(2), 199, 398)
}

func TestD1RoomShrinks(t *testing.T) {
	// of 16 a fourth is 4: at 5 words it stays, at 4 it becomes 8; of that 2
	wantLater(t, 1, 400, pushes(9), pops(9), 16, 16, 16, 16, 8, 8, 4, 2, 1)
	wantLater(t, 1, 400, pushes(9), []api.StackOp{pop(4), pop(1)}, 16, 8)
	wantLater(t, 1, 400, pushes(8), pops(8), 8, 8, 8, 8, 8, 4, 2, 1)
	// a pop makes it half as much once, however many words go
	wantLater(t, 1, 400, pushes(9), []api.StackOp{pop(9)}, 8)
	wantLater(t, 1, 400, pushes(300), []api.StackOp{pop(300)}, 200)
	wantLater(t, 1, 400, pushes(300), []api.StackOp{pop(199), pop(1), pop(49), pop(1)}, 400, 200, 200, 100)
	// where it does not grow it may shrink to what it was at first
	wantLater(t, 3, 12, pushes(7), pops(7), 12, 12, 12, 6, 6, 3, 3)
}

// TestD1OnlyAPopShrinks: neither a push nor a set does, however few words there are.
func TestD1OnlyAPopShrinks(t *testing.T) {
	ahead := append(pushes(65), pop(65))
	wantLater(t, 1, 400, ahead, []api.StackOp{push(1), set(0, 2), push(3), set(1, 4)}, 64, 64, 64, 64)
	wantLater(t, 1, 400, ahead, []api.StackOp{push(1), set(0, 2), pop(0), set(0, 3), pop(0)}, 64, 64, 32, 32, 16)
}

func TestD1PopOfNoWords(t *testing.T) {
	none := slices.Repeat([]api.StackOp{pop(0)}, 8)
	wantRooms(t, 1, 4, none[:2], 1, 1)
	// it shrinks what is a fourth in use, or less, like any other
	wantLater(t, 1, 400, append(pushes(65), pop(65)), none, 32, 16, 8, 4, 2, 1, 1, 1)
	wantLater(t, 1, 400, append(pushes(65), pop(62)), none, 32, 16, 8, 8, 8, 8, 8, 8)
	wantLater(t, 3, 400, append(pushes(49), pop(49)), none, 24, 12, 6, 3, 3, 3, 3, 3)
	wantLater(t, 1, 400, pushes(9), none[:2], 16, 16)
	wantWords(t, 1, 400, slices.Concat(pushes(65), []api.StackOp{pop(63)}, none), 1, 2)
}

func TestD1OddRoom(t *testing.T) {
	// 7: a fourth is 1, half 3; 3: a fourth is 0, half 1
	wantLater(t, 1, 7, pushes(7), pops(7), 7, 7, 7, 7, 7, 3, 1)
	wantLater(t, 1, 7, pushes(7), []api.StackOp{pop(6), push(2), push(3), push(4), push(5)}, 3, 3, 3, 6, 6)
	wantLater(t, 1, 7, append(pushes(7), pop(6)), []api.StackOp{pop(0), pop(1), pop(0)}, 3, 1, 1)
	// 9: a fourth is 2, half 4
	wantLater(t, 1, 9, pushes(9), []api.StackOp{pop(6), pop(1), pop(1), pop(1), pop(0)}, 9, 4, 2, 1, 1)
	// 11: a fourth is 2, half 5; of that 1, and 2
	wantLater(t, 1, 11, pushes(11), []api.StackOp{pop(8), pop(1), pop(0), pop(1), pop(0)}, 11, 5, 5, 2, 2)
	// 5: a fourth is 1, half 2
	wantLater(t, 1, 5, pushes(5), pops(5), 5, 5, 5, 2, 1)
	// 3: a fourth is none
	wantLater(t, 1, 3, pushes(3), pops(3), 3, 3, 1)
	wantLater(t, 2, 3, pushes(3), pops(3), 3, 3, 2)
	wantLater(t, 1, 2, pushes(2), pops(2), 2, 1)
	wantLater(t, 1, 399, pushes(399), []api.StackOp{pop(299), pop(1), pop(49), pop(1)}, 399, 199, 199, 99)
}

func TestD1MinKeepsTheRoomHigher(t *testing.T) {
	// 20 becomes 10, that 5, and that not 2
	wantLater(t, 3, 20, pushes(20), []api.StackOp{pop(14), pop(1), pop(2), pop(1), pop(0), pop(1), pop(0), pop(1)}, 20, 10, 10, 5, 5, 3, 3, 3)
	wantLater(t, 3, 5, pushes(5), pops(5), 5, 5, 5, 3, 3)
	wantLater(t, 4, 5, pushes(5), pops(5), 5, 5, 5, 4, 4)
	wantLater(t, 5, 5, pushes(5), pops(5), 5, 5, 5, 5, 5)
	wantLater(t, 6, 11, pushes(11), []api.StackOp{pop(8), pop(1), pop(1), pop(1)}, 11, 6, 6, 6)
	wantLater(t, 5, 11, pushes(11), []api.StackOp{pop(8), pop(1), pop(1), pop(1)}, 11, 5, 5, 5)
	wantLater(t, 4, 11, pushes(11), []api.StackOp{pop(8), pop(1), pop(1), pop(1)}, 11, 5, 4, 4)
	wantLater(t, 200, 400, pushes(400), []api.StackOp{pop(299), pop(1), pop(100)}, 400, 200, 200)
	wantLater(t, 201, 400, pushes(400), []api.StackOp{pop(299), pop(1), pop(100)}, 400, 201, 201)
	wantLater(t, 399, 400, pushes(400), []api.StackOp{pop(299), pop(1), pop(100)}, 400, 399, 399)
	wantLater(t, 400, 400, pushes(400), []api.StackOp{pop(299), pop(1), pop(100)}, 400, 400, 400)
}

// TestRoomIsNoObserver: the words are the same, whatever the room is.
func TestRoomIsNoObserver(t *testing.T) {
	l := slices.Concat(pushes(40), []api.StackOp{pop(31), set(8, -1)}, pushes(7), []api.StackOp{pop(15), set(0, -2)}, pushes(3))
	for least := 1; least <= api.MaxWords; least++ {
		for _, most := range []int{40, 41, 63, 64, 65, 399, 400} {
			if least <= most {
				wantWords(t, least, most, l, -2, 1, 2, 3)
			}
		}
	}
}

// TestRoomIsKept between min and most, and is never less than the words need.
func TestRoomIsKept(t *testing.T) {
	for least := 1; least <= 30; least++ {
		for most := least; most <= 70; most++ {
			_, rooms, f := stacks.Play(least, most, slices.Concat(pushes(most), pops(most)))
			if f != (api.Fault{}) || len(rooms) != 2*most {
				t.Fatalf("Play(%d, %d, up and down): %d rooms, %v", least, most, len(rooms), f)
			}
			for i, room := range rooms {
				if count := min(i+1, 2*most-i-1); room < max(count, least) || room > most {
					t.Errorf("Play(%d, %d, up and down): room for %d after entry %d, with %d words", least, most, room, i, count)
				}
			}
			if last := rooms[2*most-1]; last > max(least, 3) {
				t.Errorf("Play(%d, %d, up and down): room for %d in the end", least, most, last)
			}
		}
	}
}
