package opt_test

import (
	"math/rand"
	"slices"
	"testing"

	"yieldshape/api"
	"yieldshape/opt"
	"yieldshape/verify"
)

// checkOracle: of a task's code just that is left which the oracle leaves, and that stays as it is. It answers how many instructions less there are.
func checkOracle(t *testing.T, r *rand.Rand, l []api.Instr) int {
	t.Helper()
	got, w := opt.Module(around(l))
	if w != (api.Where{}) {
		t.Fatalf("%s: Module: %v", textOf(l), w)
	}
	left := got.Units[0].Code
	if want := oracle(r, l); !slices.Equal(left, want) {
		t.Fatalf("%s\nbecomes %s\nwant    %s", textOf(l), textOf(left), textOf(want))
	}
	if w := verify.Verify(got); w != (api.Where{}) {
		t.Fatalf("%s\nbecomes %s: %v is wrong with that", textOf(l), textOf(left), w)
	}
	if again, w := opt.Module(got); w != (api.Where{}) || !same(again, got) {
		t.Fatalf("%s\nbecomes %s\nand then %v, %v", textOf(l), textOf(left), again, w)
	}
	return len(l) - len(left)
}

// TestEachShortCode: all code of up to five instructions of a few kinds, never reached, and, where it runs, reached.
func TestEachShortCode(t *testing.T) {
	r := rand.New(rand.NewSource(14))
	few := code("push 2, truth 0, truth 1, drop, not, add, eq, jump 1, jump 2, jump 3, else 2, else 4, out, end")
	done, runs := 0, 0
	for n := 1; n <= 5; n++ {
		total := 1
		for range n - 1 {
			total *= len(few)
		}
		for k := range total {
			var l []api.Instr
			for rest := k; len(l) < n-1; rest /= len(few) {
				l = append(l, few[rest%len(few)])
			}
			l = append(l, api.Instr{Op: api.OpEnd})
			if slices.ContainsFunc(l, func(c api.Instr) bool { return c.A >= n }) {
				continue
			}
			for i := range l {
				if isJump(words[l[i].Op-1]) {
					l[i].A++
				}
			}
			done += min(1, checkOracle(t, r, append(code("end"), l...)))
			for i := range l {
				if isJump(words[l[i].Op-1]) {
					l[i].A--
				}
			}
			if verify.Verify(around(l)).Err == api.OK {
				runs++
				checkOracle(t, r, l)
			}
		}
	}
	if done < 5000 || runs < 500 {
		t.Errorf("with %d something is done, %d run: that tells too little", done, runs)
	}
}

// TestRandomNonsense: what is never reached is made shorter just as well.
func TestRandomNonsense(t *testing.T) {
	k := maker{rand.New(rand.NewSource(140))}
	less, all := 0, 0
	for range 20000 {
		l := k.nonsense(1+k.Intn(40), []int{6, 8, 20, 80}[k.Intn(4)])
		l[0] = api.Instr{Op: api.OpEnd}
		all += len(l)
		less += checkOracle(t, k.Rand, l)
	}
	if less*10 < all || less*10 > 9*all {
		t.Errorf("%d instructions less of %d: that tells too little", less, all)
	}
}

// TestRandomSense: code that runs.
func TestRandomSense(t *testing.T) {
	k := maker{rand.New(rand.NewSource(1400))}
	less, all, ran := 0, 0, 0
	for range 20000 {
		l := k.sense(6 + k.Intn(40))
		if verify.Verify(around(l)).Err != api.OK {
			continue
		}
		ran++
		all += len(l)
		less += checkOracle(t, k.Rand, l)
	}
	if ran < 10000 || less*10 < all || less*10 > 9*all {
		t.Errorf("%d run, %d instructions less of %d: that tells too little", ran, less, all)
	}
}

// TestRandomOrder: whichever is done first, wherever, the same is left.
func TestRandomOrder(t *testing.T) {
	k := maker{rand.New(rand.NewSource(41))}
	for range 500 {
		l := k.nonsense(60, 8)
		want := oracle(k.Rand, l)
		for range 5 {
			if got := oracle(k.Rand, l); !slices.Equal(got, want) {
				t.Fatalf("%s\nbecomes %s\nand %s", textOf(l), textOf(got), textOf(want))
			}
		}
	}
}
