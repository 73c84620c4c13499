package source_test

import (
	"fmt"
	"math"
	"math/big"
	"testing"

	"yieldshape/api"
)

const (
	least    = math.MinInt64
	greatest = math.MaxInt64
)

// edges are words at which numbers wrap round, change their sign, or are nought.
var edges = []int64{least, least + 1, -1 << 32, -10, -7, -3, -2, -1, 0, 1, 2, 3, 7, 10, 1 << 31, 1<<32 + 1, 3037000500, greatest - 1, greatest}

// written is an expression that comes to v; few numbers are written as they are.
func written(v int64) string {
	const part = 1_000_000_000
	u, sign := uint64(v), ""
	if v < 0 {
		u, sign = -u, "- "
	}
	return fmt.Sprintf("%s( ( %d * %d + %d ) * %d + %d )", sign, u/part/part, part, u/part%part, part, u%part)
}

// wrapped is a number's word of 64 bits, whatever the number is.
func wrapped(n *big.Int) int64 {
	all := new(big.Int).Lsh(big.NewInt(1), 64)
	n = new(big.Int).Mod(n, all)
	if n.Bit(63) == 1 {
		n.Sub(n, all)
	}
	return n.Int64()
}

// ofTwo answers what comes of two numbers, reckoned without bounds.
func ofTwo(sign string, a, b int64) int64 {
	x, y, z := big.NewInt(a), big.NewInt(b), new(big.Int)
	order := x.Cmp(y)
	is := map[string]bool{"==": order == 0, "!=": order != 0, "<": order < 0, "<=": order <= 0, ">": order > 0, ">=": order >= 0}
	switch sign {
	case "+":
		return wrapped(z.Add(x, y))
	case "-":
		return wrapped(z.Sub(x, y))
	case "*":
		return wrapped(z.Mul(x, y))
	case "/":
		return wrapped(z.Quo(x, y))
	case "%":
		return wrapped(z.Rem(x, y))
	}
	if is[sign] {
		return 1
	}
	return 0
}

func TestK2Numbers(t *testing.T) {
	for _, a := range edges {
		wantEnd(t, "task t { out "+written(a)+" ; out - "+written(a)+" ; }", done(a, -a))
		for _, b := range edges {
			text, want := "", []int64(nil)
			for _, sign := range []string{"+", "-", "*", "/", "%", "==", "!=", "<", "<=", ">", ">="} {
				if b != 0 || sign != "/" && sign != "%" {
					text += "out a " + sign + " b ; "
					want = append(want, ofTwo(sign, a, b))
				}
			}
			wantEnd(t, "task t { let a = "+written(a)+" ; let b = "+written(b)+" ; "+text+"}", done(want...))
		}
		for _, sign := range []string{"/", "%"} {
			wantEnd(t, "task t { out 1 ; out "+written(a)+" "+sign+" 0 ; out 2 ; }", trapped(api.TrapZero, 1))
		}
	}
}

// TestK2Division: told by numbers, not by a second reckoning.
func TestK2Division(t *testing.T) {
	for _, c := range []struct{ a, b, div, mod int64 }{
		{7, 2, 3, 1}, {-7, 2, -3, -1}, {7, -2, -3, 1}, {-7, -2, 3, -1},
		{6, 3, 2, 0}, {-6, 3, -2, 0}, {1, 5, 0, 1}, {-1, 5, 0, -1}, {0, 5, 0, 0}, {0, -5, 0, 0},
		{least, -1, least, 0}, {least, 1, least, 0}, {greatest, -1, -greatest, 0}, {least, least, 1, 0}, {greatest, least, 0, greatest}, {least, greatest, -1, -1},
	} {
		wantEnd(t, fmt.Sprintf("task t { let a = %s ; let b = %s ; out a / b ; out a %% b ; }", written(c.a), written(c.b)), done(c.div, c.mod))
	}
}

func TestK2Truths(t *testing.T) {
	wantEnd(t, "task t { out true ; out false ; out not true ; out not false ; }", done(1, 0, 0, 1))
	for _, a := range []int64{0, 1} {
		for _, b := range []int64{0, 1} {
			word := []string{"false", "true"}
			text := "task t { let a = " + word[a] + " ; let b = " + word[b] + " ; out a and b ; out a or b ; out a == b ; out a != b ; }"
			wantEnd(t, text, done(a&b, a|b, 1-a^b, a^b))
		}
	}
	// Neither hides what is wrong with the second kid.
	wantEnd(t, "task t { out false and 1 / 0 == 1 ; }", trapped(api.TrapZero))
	wantEnd(t, "task t { out true or 1 / 0 == 1 ; }", trapped(api.TrapZero))
	wantEnd(t, "box b bool 2 ; task t { send b 1 < 2 ; send b not true ; out recv ( b ) ; if recv ( b ) { out 5 ; } else { out 6 ; } }", done(1, 6))
}

// TestK2GreatNumbers: those that are written stand for themselves.
func TestK2GreatNumbers(t *testing.T) {
	wantEnd(t, "task t { out 999999999999999 ; out 0 ; out 000000000000007 ; }", done(999999999999999, 0, 7))
}
