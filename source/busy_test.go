package source

import (
	"testing"

	"yieldshape/api"
	"yieldshape/syn"
)

// TestK2Busy: nobody comes by what is going on, in programs that Check lets through: what is passed and yielded is plain, so that a generator only knows those that it has started, and elder ones that its starter knew. So the name is made to stand for it by hand: 0 is the first one that was started.
func TestK2Busy(t *testing.T) {
	for _, c := range []struct {
		text  string
		trap  int
		steps int
	}{
		{"gen g ( ) takes num yields num { do resume ( h , 1 ) ; } task t { let h = start g ( ) ; out resume ( h , 2 ) ; }", api.TrapBusy, 2 + 4 + 4},
		{"gen g ( ) takes num yields num { do resume ( start i ( ) , 1 ) ; } gen i ( ) takes num yields num { out 1 + resume ( h , 1 ) ; } task t { let h = start g ( ) ; out resume ( h , 2 ) ; }", api.TrapBusy, 2 + 4 + 4 + 6},
		// Who has yielded is not going any more, who is at its end neither.
		{"gen g ( ) takes num yields num { do yield ( 1 ) ; } gen i ( ) takes num yields num { do resume ( h , 1 ) ; } task t { let h = start g ( ) ; do resume ( h , 2 ) ; do resume ( start i ( ) , 1 ) ; }", 0, 2 + 4 + 3 + 4 + 4},
		{"gen g ( ) takes num yields num { } gen i ( ) takes num yields num { do resume ( h , 1 ) ; } task t { let h = start g ( ) ; do resume ( h , 2 ) ; do resume ( start i ( ) , 1 ) ; }", api.TrapDone, 2 + 4 + 4 + 4},
	} {
		l, f := syn.Read(c.text)
		if f.Err != api.OK {
			t.Fatalf("%s: %v", c.text, f)
		}
		w := newWorld(l) // a name that stands for nothing is asked for: 0
		w.play()
		e := w.tasks[0].End
		want := api.Trapped
		if c.trap == 0 {
			want = api.Done
		}
		if e.State != want || e.Trap != c.trap || len(e.Out) > 0 || w.steps != c.steps {
			t.Errorf("%s: %+v after %d nodes; want trap %d after %d", c.text, e, w.steps, c.trap, c.steps)
		}
	}
}
