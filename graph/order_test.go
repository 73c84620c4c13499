package graph_test

import (
	"fmt"
	"strings"
	"testing"

	"yieldshape/api"
)

// TestO1Order: who receives from a stands behind a.
func TestO1Order(t *testing.T) {
	wantOrder(t, "task t { out 1 ; }", "t", "")
	wantOrder(t, "box p num 1 ; task a { send p 1 ; } task b { out recv ( p ) ; }", "a b", "")
	wantOrder(t, "box p num 1 ; task b { out recv ( p ) ; } task a { send p 1 ; }", "a b", "")
	wantOrder(t, "box p num 1 ; box q num 1 ; task c { out recv ( q ) ; } task b { send q recv ( p ) ; } task a { send p 1 ; }", "a b c", "")
}

// TestO1OrderOfTheList: who need not stand behind another one stands as in the list, not by his name.
func TestO1OrderOfTheList(t *testing.T) {
	wantOrder(t, "task c { } fn f ( ) num { return 1 ; } task a { } box b num 1 ; task d { } gen g ( ) takes num yields num { } task b2 { }", "c a d b2", "")
	// A box to which nobody sends, or from which nobody receives, does not matter.
	wantOrder(t, "box p num 1 ; box q num 1 ; task c { out recv ( p ) ; } task a { send q 1 ; }", "c a", "")
}

// TestO1OrderAgainFromTheFirst: as soon as all stand from which somebody receives who is ahead in the list, he comes, ahead of those behind.
func TestO1OrderAgainFromTheFirst(t *testing.T) {
	wantOrder(t, "box p num 1 ; box q num 1 ; task c { out recv ( q ) ; } task b { send q recv ( p ) ; } task a { send p 1 ; } task d { }", "a b c d", "")
	wantOrder(t, "box p num 1 ; task z { } task c { out recv ( p ) ; } task y { } task a { send p 1 ; } task x { }", "z y a c x", "")
	wantOrder(t, `box p num 1 ; box q num 1 ; task c { out recv ( p ) + recv ( q ) ; } task a { send p 1 ; } task x { } task b { send q 1 ; } task y { }`, "a x b c y", "")
}

// TestO1OrderAllOfThem: who receives from several stands behind the last of them.
func TestO1OrderAllOfThem(t *testing.T) {
	diamond := `box p num 1 ; box q num 1 ; box r num 1 ; box s num 1 ;
		task d { out recv ( r ) + recv ( s ) ; } task b { send r recv ( p ) ; } task c { send s recv ( q ) ; } task a { send p 1 ; send q 1 ; }`
	wantOrder(t, diamond, "a b c d", "")
	twice := "box p num 1 ; box q num 1 ; task b { out recv ( p ) + recv ( q ) ; } task c { } task a { send q 1 ; send p 1 ; }"
	wantOrder(t, twice, "c a b", "")
}

// TestO1OrderLeft: in a circle, and behind it, nobody stands in the order; ahead of it they do.
func TestO1OrderLeft(t *testing.T) {
	wantOrder(t, "box p num 1 ; task a { send p recv ( p ) ; }", "", "a")
	wantOrder(t, "box p num 1 ; task a { send p recv ( p ) ; } task b { }", "b", "a")
	wantOrder(t, "box p num 1 ; box q num 1 ; task a { send p recv ( q ) ; } task b { send q recv ( p ) ; } task c { out 1 ; }", "c", "a b")
	wantOrder(t, "box p num 1 ; box q num 1 ; task b { send p recv ( q ) ; } task c { } task a { send q recv ( p ) ; }", "c", "b a")
	circle := `box o num 1 ; box p num 1 ; box q num 1 ; box r num 1 ; box s num 1 ; box u num 1 ;
		task f { out recv ( s ) ; } task e { send s recv ( r ) ; }
		task d { send p recv ( o ) + recv ( q ) ; } task b { send q recv ( p ) ; send r 1 ; }
		task a { send o 1 ; send u 1 ; } task c { out recv ( u ) ; }`
	wantOrder(t, circle, "a c", "f e d b")
	// Of two boxes one is from a task that stands there, the other one from himself.
	wantOrder(t, "box p num 1 ; box q num 1 ; task b { send q recv ( p ) ; out recv ( q ) ; } task a { send p 1 ; }", "a", "b")
}

// TestO1OrderOfMany: as many tasks as there may be, each behind the next one in the list.
func TestO1OrderOfMany(t *testing.T) {
	const many = api.MaxDefs / 2
	var text strings.Builder
	var want []string
	for n := range many {
		fmt.Fprintf(&text, "box b%d num 1 ; ", n)
		if n == many-1 {
			fmt.Fprintf(&text, "task t%d { send b%d 1 ; } ", n, n-1)
		} else if n == 0 {
			fmt.Fprintf(&text, "task t%d { out recv ( b%d ) ; } ", n, n)
		} else {
			fmt.Fprintf(&text, "task t%d { send b%d recv ( b%d ) ; } ", n, n-1, n)
		}
		want = append([]string{fmt.Sprint("t", n)}, want...)
	}
	wantOrder(t, text.String(), strings.Join(want, " "), "")
}
