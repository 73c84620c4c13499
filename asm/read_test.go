package asm_test

import (
	"slices"
	"strings"
	"testing"

	"yieldshape/api"
	"yieldshape/asm"
)

func TestM2ReadsWhateverIsWrong(t *testing.T) {
	wantModule(t, "", api.Module{})
	wantModule(t, "fn 99 -1 0\n", ofUnits(api.Unit{Kind: api.DFn, Params: 99, Result: -1}))
	wantModule(t, "task 0 0 0\n\tload 7\n\tjump -1\n\ttruth 2\n\tcall 100\n", ofUnits(task(
		api.Instr{Op: api.OpLoad, A: 7}, api.Instr{Op: api.OpJump, A: -1}, api.Instr{Op: api.OpTruth, A: 2}, api.Instr{Op: api.OpCall, A: 100})))
	wantModule(t, strings.Repeat("gen 0 0 0\n", 40), ofUnits(slices.Repeat([]api.Unit{{Kind: api.DGen}}, 40)...))
}

// badLines are none, wherever they stand.
var badLines = []string{
	"", " ", "\t", "\t\t", "\r", "\x00", "\v", "#", "# x", "öl", "\xff",
	"box", "box 1", "box 1 2 3", "box  1 2", "box 1  2", "box 1 2 ", " box 1 2", "\tbox 1 2", "box 1 2\t", "box\t1 2", "box 1\t2", "box 1 2\r",
	"Box 1 2", "BOX 1 2", "boxes 1 2", "bo 1 2", "box1 2", "box 1,2", "box 1, 2", "box a 2", "box 1 b", "box num 2",
	"fn", "fn 0", "fn 0 0", "gen 0 0", "task 0 0", "task", "task ", "fn  0 0 0", "fn 0 0 0 ", "fn 0 0 0  1", "fn 0 0 0 x", "fn 0 0 0 1 x", "fn 0 0 0 01",
	"unit 0 0 0", "Fn 0 0 0", "TASK 0 0 0", "fngen 0 0 0", "fn gen task", "tasks 0 0 0", "\tfn 0 0 0", " fn 0 0 0", "\ttask 0 0 0", "fn 0 0 0\r", "2 0 0 0", " 0 0 0",
	"end", " end", "  end", "\t end", "\t\tend", "\tend ", "\tend\t", "\tend\r", "\tEnd", "\tEND", "\tends", "\ten", "\tfoo", "\tnop", "push 1", " push 1",
	"\tpush", "\tpush ", "\tpush  1", "\tpush 1 ", "\tpush 1 2", "\tpush\t1", "\tpush1", "\tpush x", "\t1", "\t push 1", "\tpush true",
	"\ttruth", "\ttruth true", "\tload", "\tstore", "\tjump", "\telse", "\tcall", "\tsend", "\trecv", "\tstart", "\tload 1 2", "\tload a",
	"\tdrop 0", "\tneg 1", "\tret 0", "\tout 1", "\tresume 1", "\tyield 0", "\talive 0", "\tadd 1 2", "\tor 0", "\tpush truth",
}

// badNumbers are none as a text has them.
var badNumbers = []string{
	"", "-", "+", "--1", "+1", "-+1", "00", "01", "007", "-0", "-00", "-01", "1-", "1_000", "1.0", "1e3", "0x10", "0b1", "0o7", "1 ", "\t1", "1\t", "1\r", "\x001", "1\x00",
	"9223372036854775808", "-9223372036854775809", "18446744073709551616", "99999999999999999999", "00000000000000000000000000001", "-", "x", "٣", "１", "1,", "1;", "−1", "'1'", "num",
}

func wantBadLine(t *testing.T, line string) {
	t.Helper()
	bad := func(at int) api.Fault { return api.Fault{Err: api.ErrForm, At: at} }
	wantNoModule(t, line+"\n", bad(0))
	wantNoModule(t, "box 1 2\n"+line+"\n", bad(1))
	wantNoModule(t, "box 1 2\n"+line+"\ntask 0 0 0\n", bad(1))
	wantNoModule(t, "task 0 0 0\n"+line+"\n", bad(1))
	wantNoModule(t, sampleText+line+"\n\tend\n", bad(strings.Count(sampleText, "\n")))
	wantNoModule(t, sampleText+line+"\n"+line+"\n", bad(strings.Count(sampleText, "\n")))
	if line != "" {
		wantNoModule(t, sampleText+line, bad(strings.Count(sampleText, "\n")))
	}
}

func TestM2BadLines(t *testing.T) {
	for _, line := range badLines {
		wantBadLine(t, line)
	}
}

// TestM2BadNumbers: in each place.
func TestM2BadNumbers(t *testing.T) {
	for _, n := range badNumbers {
		for _, form := range []string{"box ? 1", "box 1 ?", "fn ? 0 0", "gen 0 ? 0", "task 0 0 ?", "task 0 0 0 ?", "fn 0 0 0 ? 1", "fn 0 0 0 1 ?", "\tpush ?", "\ttruth ?", "\tload ?", "\tsend ?"} {
			wantBadLine(t, strings.Replace(form, "?", n, 1))
		}
	}
}

// TestM2NumbersWhereNoneAre: and none where one is.
func TestM2NumbersWhereNoneAre(t *testing.T) {
	for _, line := range lines {
		word, number, has := strings.Cut(line, " ")
		if has {
			wantBadLine(t, "\t"+word)
			wantBadLine(t, "\t"+line+" "+number)
		} else {
			wantBadLine(t, "\t"+word+" 0")
			wantBadLine(t, "\t"+word+" 5")
		}
		wantBadLine(t, line)
		wantBadLine(t, "\t"+strings.ToUpper(line))
		wantBadLine(t, "\t\t"+line)
	}
}

// TestM2WhereLinesStand: boxes ahead of all units, instructions behind one.
func TestM2WhereLinesStand(t *testing.T) {
	bad := func(at int) api.Fault { return api.Fault{Err: api.ErrForm, At: at} }
	wantNoModule(t, "\tend\n", bad(0))
	wantNoModule(t, "\tpush 1\ntask 0 0 0\n", bad(0))
	wantNoModule(t, "box 1 1\n\tend\n", bad(1))
	wantNoModule(t, "box 1 1\nbox 1 1\n\tend\ntask 0 0 0\n", bad(2))
	for _, unit := range []string{"fn 0 0 0\n", "gen 0 0 0\n", "task 0 0 0\n", "task 0 0 0 1 2\n"} {
		wantNoModule(t, unit+"box 1 2\n", bad(1))
		wantNoModule(t, "box 1 2\n"+unit+"box 1 2\n", bad(2))
		wantNoModule(t, unit+"\tend\n\tend\nbox 1 2\n"+unit, bad(3))
		wantNoModule(t, unit+"\tend\nbox 1 2\n\tfoo\n", bad(2))
	}
}

// TestM2LastLines: each ends with a line feed.
func TestM2LastLines(t *testing.T) {
	last := strings.Count(sampleText, "\n")
	for n := range len(sampleText) {
		text := sampleText[:n]
		if text == "" || strings.HasSuffix(text, "\n") {
			continue
		}
		wantNoModule(t, text, api.Fault{Err: api.ErrForm, At: strings.Count(text, "\n")})
	}
	wantNoModule(t, sampleText+"\n", api.Fault{Err: api.ErrForm, At: last})
	wantNoModule(t, "\n"+sampleText, api.Fault{Err: api.ErrForm})
	wantNoModule(t, strings.ReplaceAll(sampleText, "\n", "\r\n"), api.Fault{Err: api.ErrForm})
	wantNoModule(t, strings.ReplaceAll(sampleText, "\n", "\r"), api.Fault{Err: api.ErrForm})
	wantNoModule(t, "foo\nbox 1 2", api.Fault{Err: api.ErrForm})
	wantNoModule(t, "box 1 2", api.Fault{Err: api.ErrForm})
	wantNoModule(t, "task 0 0 0\n\tload 5\n\tend", api.Fault{Err: api.ErrForm, At: 2})
}

// TestM2TextsBehindTheBound are not read, whatever stands in them.
func TestM2TextsBehindTheBound(t *testing.T) {
	much := api.Fault{Err: api.ErrMuch}
	line := "box 1 1\n"
	if m, f := asm.Read(strings.Repeat(line, 7500)); len(m.Boxes) != 7500 || f != (api.Fault{}) {
		t.Errorf("Read of 60000 bytes: %d boxes, %v", len(m.Boxes), f)
	}
	wantNoModule(t, strings.Repeat(line, 7501), much)
	wantNoModule(t, strings.Repeat(line, 7500)+"\n", much)
	wantNoModule(t, strings.Repeat(line, 7500)[1:]+"\n", api.Fault{Err: api.ErrForm})
	wantNoModule(t, strings.Repeat(line, 7499)+"\n", api.Fault{Err: api.ErrForm, At: 7499})
	wantNoModule(t, strings.Repeat(line, 7499)+"box 1 10", api.Fault{Err: api.ErrForm, At: 7499})
	wantNoModule(t, strings.Repeat("?", 60001), much)
	wantNoModule(t, strings.Repeat("?", 60000), api.Fault{Err: api.ErrForm})
	wantNoModule(t, strings.Repeat("\n", 60000), api.Fault{Err: api.ErrForm})
	wantNoModule(t, "box 1 "+strings.Repeat("1", 59993)+"\n", api.Fault{Err: api.ErrForm})
	wantNoModule(t, "box 1"+strings.Repeat(" ", 59990)+"\n", api.Fault{Err: api.ErrForm})
	wantNoModule(t, "fn 0 0 0"+strings.Repeat(" 0", 29990)+" -0\n", api.Fault{Err: api.ErrForm})
}
