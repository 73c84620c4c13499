package asm_test

import (
	"fmt"
	"math/big"
	"regexp"
	"strings"

	"yieldshape/api"
)

// textOf is the text of a module in which all kinds are, worked out from lines.
func textOf(m api.Module) string {
	var b strings.Builder
	for _, x := range m.Boxes {
		fmt.Fprintf(&b, "box %d %d\n", x.Type, x.Cap)
	}
	for _, u := range m.Units {
		name := map[int]string{2: "fn", 3: "gen", 4: "task"}[u.Kind]
		fmt.Fprintf(&b, "%s %d %d %d", name, u.Params, u.Result, u.Takes)
		for _, n := range u.Locals {
			fmt.Fprintf(&b, " %d", n)
		}
		b.WriteString("\n")
		for _, c := range u.Code {
			word, number, _ := strings.Cut(lines[c.Op-1], " ")
			b.WriteString("\t" + word)
			switch number {
			case "5":
				fmt.Fprintf(&b, " %d", c.A)
			case "-7":
				fmt.Fprintf(&b, " %d", c.N)
			}
			b.WriteString("\n")
		}
	}
	return b.String()
}

const number = ` (0|-?[1-9][0-9]*)`

var (
	boxForm   = regexp.MustCompile(`^box` + number + number + `\n$`)
	unitForm  = regexp.MustCompile(`^(fn|gen|task)` + number + number + number + `(` + number + `)*\n$`)
	instrForm = instructions()
	digits    = regexp.MustCompile(`-?[0-9]+`)
)

func instructions() *regexp.Regexp {
	var l []string
	for _, line := range lines {
		word, _, has := strings.Cut(line, " ")
		if has {
			word += number
		}
		l = append(l, word)
	}
	return regexp.MustCompile("^\t(" + strings.Join(l, "|") + ")\n$")
}

// firstBadLine is the number of the first line of text that is none, or -1, worked out from what lines look like.
func firstBadLine(text string) int {
	units := 0
	for at, line := range strings.SplitAfter(text, "\n") {
		if line == "" { // behind the last line feed
			continue
		}
		unit := unitForm.MatchString(line)
		ok := unit || units == 0 && boxForm.MatchString(line) || units > 0 && instrForm.MatchString(line)
		for _, n := range digits.FindAllString(line, -1) {
			i, _ := new(big.Int).SetString(n, 10)
			ok = ok && i.IsInt64()
		}
		if !ok {
			return at
		}
		if unit {
			units++
		}
	}
	return -1
}

// told is m without what its text does not tell.
func told(m api.Module) api.Module {
	out := api.Module{Boxes: m.Boxes}
	for _, u := range m.Units {
		var code []api.Instr
		for _, c := range u.Code {
			line := lines[c.Op-1]
			if !strings.HasSuffix(line, " 5") {
				c.A = 0
			}
			if !strings.HasSuffix(line, " -7") {
				c.N = 0
			}
			code = append(code, c)
		}
		u.Code = code
		out.Units = append(out.Units, u)
	}
	return out
}

// whereWrong is what Print must say of m, worked out from the texts of its first units.
func whereWrong(m api.Module) api.Where {
	for n := 0; n <= len(m.Units); n++ {
		if len(textOf(api.Module{Boxes: m.Boxes, Units: m.Units[:n]})) > 60000 {
			return api.Where{Err: api.ErrMuch}
		}
		if n == len(m.Units) {
			break
		}
		if k := m.Units[n].Kind; k != api.DFn && k != api.DGen && k != api.DTask {
			return api.Where{Err: api.ErrKind, Unit: n}
		}
		for at, c := range m.Units[n].Code {
			if c.Op < 1 || c.Op > 32 {
				return api.Where{Err: api.ErrKind, Unit: n, At: at}
			}
		}
	}
	return api.Where{}
}
