package mail_test

import (
	"math"
	"slices"
	"testing"

	"yieldshape/api"
	"yieldshape/mail"
)

// TestE1Places: at their bounds and beyond, whatever the entries are.
func TestE1Places(t *testing.T) {
	for _, places := range []int{0, -1, -2, -20, math.MinInt, 21, 22, 400, 1 << 32, 1<<32 + 1, math.MaxInt} {
		for _, l := range [][]api.MailOp{nil, {}, {send(1)}, {take}, {send(1), send(2), take}, sends(1, 30)} {
			wantRange(t, places, l)
		}
	}
	for places := 1; places <= 20; places++ {
		wantPlay(t, places, nil, nil, none)
		wantPlay(t, places, []api.MailOp{}, nil, none)
		wantPlay(t, places, []api.MailOp{send(7)}, puts(1), []int64{7})
		wantPlay(t, places, []api.MailOp{take}, noes(1), none)
	}
}

// TestE1AsManyAsPlaces: of each box, as many words as it has places, and no more; those that are refused are gone.
func TestE1AsManyAsPlaces(t *testing.T) {
	for places := 1; places <= 20; places++ {
		wantPlay(t, places, sends(1, places-1), puts(places-1), row(1, places-1))
		wantPlay(t, places, sends(1, places), puts(places), row(1, places))
		wantPlay(t, places, sends(1, places+1), append(puts(places), no), row(1, places))
		wantPlay(t, places, sends(1, places+25), slices.Concat(puts(places), noes(25)), row(1, places))
	}
}

// TestE1WherePlaceComesFree: a full box has one place after each taking.
func TestE1WherePlaceComesFree(t *testing.T) {
	l := []api.MailOp{send(1), send(2), take, send(3), send(4), take, take, send(5), send(6), send(7)}
	wantPlay(t, 1, l, []api.MailGot{put, no, {OK: true, V: 1}, put, no, {OK: true, V: 3}, no, put, no, no}, []int64{5})
	wantPlay(t, 2, l, []api.MailGot{put, put, {OK: true, V: 1}, put, no, {OK: true, V: 2}, {OK: true, V: 3}, put, put, no}, []int64{5, 6})
	for places := 1; places <= 20; places++ {
		l := append(sends(1, places), send(-1), take, send(lastWord), send(-2))
		got := slices.Concat(puts(places), noes(1), took(1), puts(1), noes(1))
		wantPlay(t, places, l, got, append(row(2, places-1), lastWord))
		l = slices.Concat(sends(1, places), takes(places), sends(50, places+1))
		got = slices.Concat(puts(places), took(row(1, places)...), puts(places), noes(1))
		wantPlay(t, places, l, got, row(50, places))
	}
}

// TestE1TakingFromEach: from a box with words, with one, and with none, be it new or emptied.
func TestE1TakingFromEach(t *testing.T) {
	for places := 1; places <= 20; places++ {
		for count := range places + 1 {
			for more := range 3 {
				l := slices.Concat(sends(1, count), takes(count+more))
				wantPlay(t, places, l, slices.Concat(puts(count), took(row(1, count)...), noes(more)), none)
			}
			for taken := range count + 1 {
				l := slices.Concat(takes(2), sends(1, count), takes(taken))
				got := slices.Concat(noes(2), puts(count), took(row(1, taken)...))
				wantPlay(t, places, l, got, row(1+taken, count-taken))
			}
		}
	}
	// what was in vain is not made good by what comes later
	wantPlay(t, 2, []api.MailOp{take, send(1), take, take, send(2)}, []api.MailGot{no, put, {OK: true, V: 1}, no, put}, []int64{2})
}

// TestE1Words: any word goes in and out as it is, 0 too; the same word may be there often.
func TestE1Words(t *testing.T) {
	words := []int64{0, math.MinInt64, math.MaxInt64, -1, 0, 0, 1 << 40, 7, 7, math.MinInt64}
	var l []api.MailOp
	for _, v := range words {
		l = append(l, send(v))
	}
	wantPlay(t, 10, l, puts(10), words)
	wantPlay(t, 10, append(l, takes(11)...), slices.Concat(puts(10), took(words...), noes(1)), none)
	wantPlay(t, 4, append(l, takes(3)...), slices.Concat(puts(4), noes(6), took(words[:3]...)), words[3:4])
}

// TestE1OnlyATakingBearsAWord: neither a put, nor one that is refused, nor a taking in vain, whatever stands in the entry.
func TestE1OnlyATakingBearsAWord(t *testing.T) {
	for _, v := range []int64{math.MinInt64, -1, 0, 1, 5, math.MaxInt64} {
		l := []api.MailOp{{V: v}, {Put: true, V: 6}, {Put: true, V: v}, {V: v}, {V: v}, {Put: true, V: v}}
		wantPlay(t, 1, l, []api.MailGot{no, put, no, {OK: true, V: 6}, no, put}, []int64{v})
	}
}

// TestE1RoundAndRound: words go in and out for longer than there are places, with so many in the box all the while.
func TestE1RoundAndRound(t *testing.T) {
	for places := 1; places <= 20; places++ {
		for count := 1; count <= places; count++ {
			l, got := sends(0, count), puts(count)
			for i := range 5*places + 3 {
				if count == places {
					l, got = append(l, send(-5)), append(got, no)
				}
				l, got = append(l, take, send(int64(count+i))), append(got, api.MailGot{OK: true, V: int64(i)}, put)
				wantPlay(t, places, l, got, row(i+1, count))
				if t.Failed() {
					return
				}
			}
		}
	}
}

// TestE1FilledAndEmptied: again and again, from each place on.
func TestE1FilledAndEmptied(t *testing.T) {
	for places := 1; places <= 20; places++ {
		for step := 1; step <= places; step++ {
			var l []api.MailOp
			var got []api.MailGot
			for i := range 2*places + 1 {
				l = slices.Concat(l, sends(100*i, step), takes(step+1))
				got = slices.Concat(got, puts(step), took(row(100*i, step)...), noes(1))
			}
			wantPlay(t, places, l, got, none)
			l = append(l, sends(1, places+1)...)
			wantPlay(t, places, l, slices.Concat(got, puts(places), noes(1)), row(1, places))
		}
	}
}

// TestArgumentsAreOnlyRead: nor is the spare room behind them changed, or looked at (Z2).
func TestArgumentsAreOnlyRead(t *testing.T) {
	whole := slices.Concat(sends(1, 5), takes(2), sends(6, 4), takes(9))
	before := slices.Clone(whole)
	for n := range len(whole) {
		mail.Play(3, whole[:n])
		if !slices.Equal(whole, before) {
			t.Fatalf("Play of the first %d entries makes %v of %v", n, whole, before)
		}
	}
	wantPlay(t, 3, whole[:7], slices.Concat(puts(3), noes(2), took(1, 2)), []int64{3})
	wantPlay(t, 3, whole[:0], nil, none)
}

// TestAnswersAreTheCallers: whoever changes an answer, or what was handed in, changes no other answer (Z1, Z2).
func TestAnswersAreTheCallers(t *testing.T) {
	l := slices.Concat(sends(1, 5), takes(2), sends(6, 4))
	got, left, _ := mail.Play(5, l)
	other, otherLeft, _ := mail.Play(5, l)
	clear(l)
	clear(other[:cap(other)])
	clear(otherLeft[:cap(otherLeft)])
	want := slices.Concat(puts(5), took(1, 2), puts(2), noes(2))
	if !slices.Equal(got, want) || !slices.Equal(left, row(3, 5)) {
		t.Errorf("the first answer becomes %v, %v", got, left)
	}
	wantPlay(t, 5, slices.Concat(sends(1, 5), takes(2), sends(6, 4)), want, row(3, 5))
}
