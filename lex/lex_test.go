package lex_test

import (
	"reflect"
	"regexp"
	"strconv"
	"strings"
	"testing"
	"unsafe"

	"yieldshape/api"
	"yieldshape/lex"
)

func word(text string, at int) api.Token {
	return api.Token{Kind: api.TWord, Text: text, At: at}
}

func num(text string, n int64, at int) api.Token {
	return api.Token{Kind: api.TNum, Text: text, Num: n, At: at}
}

func sign(text string, at int) api.Token {
	return api.Token{Kind: api.TSign, Text: text, At: at}
}

func fault(err api.Errno, at int) api.Fault { return api.Fault{Err: err, At: at} }

// same holds answers against each other; no entries and nil are the same (Z3).
func same(a, b []api.Token) bool {
	return len(a) == 0 && len(b) == 0 || reflect.DeepEqual(a, b)
}

func wantTokens(t *testing.T, s string, want ...api.Token) {
	t.Helper()
	got, f := lex.Tokens(s)
	if f != (api.Fault{}) || !same(got, want) {
		t.Errorf("Tokens(%.60q) = %v, %v; want %v", s, got, f, want)
	}
}

func wantFault(t *testing.T, s string, want api.Fault) {
	t.Helper()
	got, f := lex.Tokens(s)
	if f != want || len(got) != 0 {
		t.Errorf("Tokens(%.60q) = %v, %v; want no tokens, %v", s, got, f, want)
	}
}

func TestA1Ordinary(t *testing.T) {
	wantTokens(t, "a1 <= 15 # x", word("a1", 0), sign("<=", 3), num("15", 15, 6))
	wantTokens(t, "box b num 2 ;", word("box", 0), word("b", 4), word("num", 6), num("2", 2, 10), sign(";", 12))
	wantTokens(t, "x=-y*(2+z);", word("x", 0), sign("=", 1), sign("-", 2), word("y", 3), sign("*", 4), sign("(", 5),
		num("2", 2, 6), sign("+", 7), word("z", 8), sign(")", 9), sign(";", 10))
}

func TestA1Blanks(t *testing.T) {
	for _, s := range []string{"", " ", "\t", "\n", " \t\n\n\t "} {
		wantTokens(t, s)
	}
	wantTokens(t, "\ta\n b ", word("a", 1), word("b", 4))
}

func TestA1Remarks(t *testing.T) {
	for _, s := range []string{"#", "##", "# a", "#\n", "# a\n#b", "#\r\x00\xff!A", "#1234567890123456"} {
		wantTokens(t, s)
	}
	wantTokens(t, "a#b c", word("a", 0))
	wantTokens(t, "a#b\nc#d", word("a", 0), word("c", 4))
	wantTokens(t, "a # b # c\n\n# d\n\t1", word("a", 0), num("1", 1, 16))
	wantTokens(t, "<#\n=", sign("<", 0), sign("=", 3))
	wantFault(t, "# a\n!", fault(api.ErrForm, 4))
	wantFault(t, "#\r\n\r", fault(api.ErrForm, 3))
}

func TestA1Words(t *testing.T) {
	for _, s := range []string{"a", "z", "_", "__", "_0", "a_b9", "azertyuiop", "while", "abcdefghijklmnopqrstuvwxyz_0123456789"} {
		wantTokens(t, s, word(s, 0))
	}
	wantTokens(t, "1a", num("1", 1, 0), word("a", 1))
	wantTokens(t, "1_", num("1", 1, 0), word("_", 1))
	wantTokens(t, "a1 2", word("a1", 0), num("2", 2, 3))
}

func TestA1Numbers(t *testing.T) {
	wantTokens(t, "0", num("0", 0, 0))
	wantTokens(t, "007", num("007", 7, 0))
	wantTokens(t, "9876543210", num("9876543210", 9876543210, 0))
	wantTokens(t, strings.Repeat("9", api.MaxDigits), num("999999999999999", 999999999999999, 0))
	wantTokens(t, strings.Repeat("0", api.MaxDigits), num("000000000000000", 0, 0))
	wantTokens(t, "000000000000042", num("000000000000042", 42, 0))
	wantTokens(t, "-5", sign("-", 0), num("5", 5, 1))

	wantFault(t, strings.Repeat("9", api.MaxDigits+1), fault(api.ErrRange, 0))
	wantFault(t, strings.Repeat("0", api.MaxDigits+1), fault(api.ErrRange, 0))
	wantFault(t, "0000000000000042", fault(api.ErrRange, 0))
	wantFault(t, "a + 1000000000000000 ;", fault(api.ErrRange, 4))
	wantFault(t, strings.Repeat("1", api.MaxSource), fault(api.ErrRange, 0))
}

func TestA1Signs(t *testing.T) {
	for _, s := range strings.Fields("== != <= >= < > = + - * / % ( ) { } , ;") {
		wantTokens(t, s, sign(s, 0))
		wantTokens(t, "a"+s+"1", word("a", 0), sign(s, 1), num("1", 1, 1+len(s)))
	}
	wantTokens(t, "===", sign("==", 0), sign("=", 2))
	wantTokens(t, "====", sign("==", 0), sign("==", 2))
	wantTokens(t, "<==", sign("<=", 0), sign("=", 2))
	wantTokens(t, "=<=", sign("=", 0), sign("<=", 1))
	wantTokens(t, "!==", sign("!=", 0), sign("=", 2))
	wantTokens(t, "<>", sign("<", 0), sign(">", 1))
	wantTokens(t, "=>=", sign("=", 0), sign(">=", 1))
	wantTokens(t, "< =", sign("<", 0), sign("=", 2))
	wantTokens(t, "+=", sign("+", 0), sign("=", 1))
}

// begins: the bytes with which a token begins, or a stretch that makes none. `!` needs a `=` behind it.
const begins = "abcdefghijklmnopqrstuvwxyz_0123456789<>=+-*/%(){},; \t\n#"

func TestA1EachByte(t *testing.T) {
	for c := range 256 {
		s := string([]byte{byte(c)})
		if strings.Contains(begins, s) {
			if _, f := lex.Tokens(s); f != (api.Fault{}) {
				t.Errorf("Tokens(%q) answers %v", s, f)
			}
			continue
		}
		wantFault(t, s, fault(api.ErrForm, 0))
		wantFault(t, "a "+s, fault(api.ErrForm, 2))
		wantFault(t, "a"+s+"b", fault(api.ErrForm, 1))
		wantFault(t, "12"+s, fault(api.ErrForm, 2))
	}
}

func TestA1Wrong(t *testing.T) {
	wantFault(t, "!", fault(api.ErrForm, 0))
	wantFault(t, "! =", fault(api.ErrForm, 0))
	wantFault(t, "!!=", fault(api.ErrForm, 0))
	wantFault(t, "a != !", fault(api.ErrForm, 5))
	wantFault(t, "aB", fault(api.ErrForm, 1))
	wantFault(t, "a\r\n", fault(api.ErrForm, 1))
	wantFault(t, "é", fault(api.ErrForm, 0))
	wantFault(t, "a.b", fault(api.ErrForm, 1))
}

func TestA1FirstError(t *testing.T) {
	long := "1234567890123456"
	wantFault(t, long+" !", fault(api.ErrRange, 0))
	wantFault(t, "! "+long, fault(api.ErrForm, 0))
	wantFault(t, long+"!", fault(api.ErrRange, 0))
	wantFault(t, "a . ! "+long, fault(api.ErrForm, 2))
	wantFault(t, "a "+long+" "+long+" A", fault(api.ErrRange, 2))
	wantFault(t, "#!\n"+long+"#\n!", fault(api.ErrRange, 3))
}

func TestA1MaxSource(t *testing.T) {
	for _, piece := range []string{"a", " ", "#", "\n", "\t"} {
		if l, f := lex.Tokens(strings.Repeat(piece, api.MaxSource)); f != (api.Fault{}) || len(l) > 1 {
			t.Errorf("%d times %q: %d tokens, %v", api.MaxSource, piece, len(l), f)
		}
		wantFault(t, strings.Repeat(piece, api.MaxSource+1), fault(api.ErrMuch, 0))
	}
	wantTokens(t, strings.Repeat("a", api.MaxSource), word(strings.Repeat("a", api.MaxSource), 0))
	wantTokens(t, strings.Repeat(" ", api.MaxSource-1)+"7", num("7", 7, api.MaxSource-1))
	wantFault(t, strings.Repeat(" ", api.MaxSource-1)+"!", fault(api.ErrForm, api.MaxSource-1))

	l, f := lex.Tokens(strings.Repeat(";", api.MaxSource))
	if f != (api.Fault{}) || len(l) != api.MaxSource || l[api.MaxSource-1] != sign(";", api.MaxSource-1) {
		t.Errorf("MaxSource signs: %d tokens, %v", len(l), f)
	}

	wantFault(t, "!"+strings.Repeat(" ", api.MaxSource), fault(api.ErrMuch, 0))
	wantFault(t, strings.Repeat("1", api.MaxSource+1), fault(api.ErrMuch, 0))
	wantFault(t, strings.Repeat("a", 1<<20), fault(api.ErrMuch, 0))
}

var (
	nothing = regexp.MustCompile(`^(?:[ \t\n]|#[^\n]*)+`)
	aToken  = regexp.MustCompile(`^(?:([a-z_][a-z_0-9]*)|([0-9]+)|(==|!=|<=|>=|[-<>=+*/%(){},;]))`)
)

// cutByPattern is A1 once more, for texts of valid UTF-8 and few bytes.
func cutByPattern(s string) ([]api.Token, api.Fault) {
	var out []api.Token
	for at := 0; ; {
		at += len(nothing.FindString(s[at:]))
		if at == len(s) {
			return out, api.Fault{}
		}
		m := aToken.FindStringSubmatch(s[at:])
		switch {
		case m == nil:
			return nil, fault(api.ErrForm, at)
		case len(m[2]) > api.MaxDigits:
			return nil, fault(api.ErrRange, at)
		case m[1] != "":
			out = append(out, word(m[1], at))
		case m[2] != "":
			n, _ := strconv.ParseInt(m[2], 10, 64)
			out = append(out, num(m[2], n, at))
		default:
			out = append(out, sign(m[3], at))
		}
		at += len(m[0])
	}
}

// everyText calls do with each text of up to n of the pieces.
func everyText(pieces []string, n int, do func(string)) {
	var grow func(s string, left int)
	grow = func(s string, left int) {
		do(s)
		if left == 0 {
			return
		}
		for _, p := range pieces {
			grow(s+p, left-1)
		}
	}
	grow("", n)
}

func TestA1EveryShortText(t *testing.T) {
	pieces := []string{"a", "_", "0", "7", "12345678", "=", "!", "<", ">", "-", "(", ";", " ", "\n", "#", "A"}
	everyText(pieces, 4, func(s string) {
		got, gotFault := lex.Tokens(s)
		want, wantFault := cutByPattern(s)
		if gotFault != wantFault || !same(got, want) {
			t.Errorf("Tokens(%q) = %v, %v; want %v, %v", s, got, gotFault, want, wantFault)
		}
	})
}

var keptWords = strings.Fields("box fn gen task takes yields let if else while return stop send out do recv yield start resume alive num bool true false and or not")

func TestA2Named(t *testing.T) {
	for _, s := range []string{"a", "z", "_", "_1", "a1", "x_y", "abcdefghijkl", "____________", "a00000000000"} {
		if !lex.Named(s) {
			t.Errorf("%q should be a name", s)
		}
	}
	if s := strings.Repeat("n", api.MaxName); !lex.Named(s) {
		t.Errorf("%q should be a name", s)
	}
}

func TestA2NoName(t *testing.T) {
	for _, s := range []string{"", "1", "1a", "0_", "A", "aB", "a b", " a", "a ", "a\n", "\ta", "a#", "#a", "a;", "-a", "a-b",
		"=", "==", "é", "aé", "\xff", "a\x00", "a.b", "abcdefghijklm", "            ", "box ", " box"} {
		if lex.Named(s) {
			t.Errorf("%q should be no name", s)
		}
	}
	for _, n := range []int{api.MaxName + 1, api.MaxName + 2, api.MaxSource, api.MaxSource + 1, 1 << 20} {
		if lex.Named(strings.Repeat("n", n)) {
			t.Errorf("%d bytes should be no name", n)
		}
	}
}

func TestA2KeptWords(t *testing.T) {
	if len(keptWords) != 27 {
		t.Fatalf("%d words", len(keptWords))
	}
	for _, s := range keptWords {
		if lex.Named(s) {
			t.Errorf("%q should be no name", s)
		}
		for _, near := range []string{s + "_", "_" + s, s + "1", s + s, s[:1] + "_" + s[1:]} {
			if len(near) <= api.MaxName && !lex.Named(near) {
				t.Errorf("%q should be a name", near)
			}
		}
		wantTokens(t, s, word(s, 0))
	}
}

func TestA2EveryShortText(t *testing.T) {
	kept := map[string]bool{}
	for _, s := range keptWords {
		kept[s] = true
	}
	check := func(s string) {
		l, f := lex.Tokens(s)
		want := f.Err == api.OK && len(l) == 1 && l[0].Kind == api.TWord && l[0].Text == s && len(s) <= api.MaxName && !kept[s]
		if lex.Named(s) != want {
			t.Errorf("Named(%q) = %v", s, !want)
		}
	}
	everyText([]string{"a", "_", "0", "o", "r", "if", "do", " ", "\n", "#", "A", "=", "longer"}, 4, check)
	for a := range 256 {
		for b := range 256 {
			check(string([]byte{byte(a), byte(b)}))
		}
	}
}

// The answer must outlive the bytes that were handed in (Z2).
func TestAnswerIsNewMemory(t *testing.T) {
	b := []byte("abc 12 <= # x")
	l, _ := lex.Tokens(unsafe.String(&b[0], len(b)))
	for i := range b {
		b[i] = 'Z'
	}
	if want := []api.Token{word("abc", 0), num("12", 12, 4), sign("<=", 7)}; !same(l, want) {
		t.Errorf("tokens became %v", l)
	}
}

func TestAnswersAreApart(t *testing.T) {
	s := "a b c"
	first, _ := lex.Tokens(s)
	second, _ := lex.Tokens(s)
	for i := range first[:cap(first)] {
		first[:cap(first)][i] = sign("!", -1)
	}
	want := []api.Token{word("a", 0), word("b", 2), word("c", 4)}
	if !same(second, want) {
		t.Errorf("a second answer became %v", second)
	}
	wantTokens(t, s, want...)
}
