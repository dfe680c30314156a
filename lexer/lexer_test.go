package lexer

import (
	"fmt"
	"slices"
	"strings"
	"testing"

	"gazetteer/api"
)

func name(at int, text string) api.Token {
	return api.Token{Kind: api.TokName, At: at, Text: text}
}

func number(at int, text string, n int) api.Token {
	return api.Token{Kind: api.TokNumber, At: at, Text: text, N: n}
}

func str(at int, text string) api.Token {
	return api.Token{Kind: api.TokString, At: at, Text: text}
}

func sym(at int, text string) api.Token {
	return api.Token{Kind: api.TokSymbol, At: at, Text: text}
}

func TestKnownTexts(t *testing.T) {
	for _, test := range []struct {
		text string
		want []api.Token
	}{
		{"", nil},
		{" ", nil},
		{"\n\t \n", nil},
		{"#", nil},
		{"##\n#!\"7x\xff_", nil},
		{"row a1 at 7>=x# y", []api.Token{name(0, "row"), name(4, "a1"), name(7, "at"), number(10, "7", 7), sym(11, ">="), name(13, "x")}},
		{"to \"\" \"a b\";", []api.Token{name(0, "to"), str(3, ""), str(6, "a b"), sym(11, ";")}},
		{"aZ_09__b", []api.Token{name(0, "aZ_09__b")}},
		{"A\tz", []api.Token{name(0, "A"), name(2, "z")}},
		{"a\nb", []api.Token{name(0, "a"), name(2, "b")}},
		{"0", []api.Token{number(0, "0", 0)}},
		{"000 0012", []api.Token{number(0, "000", 0), number(4, "0012", 12)}},
		{"7\"x\"8", []api.Token{number(0, "7", 7), str(1, "x"), number(4, "8", 8)}},
		{"7.5-3", []api.Token{number(0, "7", 7), sym(1, "."), number(2, "5", 5), sym(3, "-"), number(4, "3", 3)}},
		{"\"a\"\"b\"", []api.Token{str(0, "a"), str(3, "b")}},
		{"\"# no comment\"", []api.Token{str(0, "# no comment")}},
		{"\"\\\"x", []api.Token{str(0, "\\"), name(3, "x")}},
		{"\"\t\r\x00\xff\u00e4\"", []api.Token{str(0, "\t\r\x00\xff\u00e4")}},
		{"a!=b", []api.Token{name(0, "a"), sym(1, "!="), name(3, "b")}},
		{"!===", []api.Token{sym(0, "!="), sym(2, "="), sym(3, "=")}},
		{"<==", []api.Token{sym(0, "<="), sym(2, "=")}},
		{"=<", []api.Token{sym(0, "="), sym(1, "<")}},
		{"=>=", []api.Token{sym(0, "="), sym(1, ">=")}},
		{"<>", []api.Token{sym(0, "<"), sym(1, ">")}},
		{"< =", []api.Token{sym(0, "<"), sym(2, "=")}},
		{">>", []api.Token{sym(0, ">"), sym(1, ">")}},
		{"<#\n=", []api.Token{sym(0, "<"), sym(3, "=")}},
		{"--1", []api.Token{sym(0, "-"), sym(1, "-"), number(2, "1", 1)}},
		{"[a]{b}(c)", []api.Token{sym(0, "["), name(1, "a"), sym(2, "]"), sym(3, "{"), name(4, "b"), sym(5, "}"), sym(6, "("), name(7, "c"), sym(8, ")")}},
		{"a#b", []api.Token{name(0, "a")}},
		{"7#x\n8", []api.Token{number(0, "7", 7), number(4, "8", 8)}},
		{"# a\n# b\n c # d", []api.Token{name(9, "c")}},
		{"#a#b\n\n#\nc", []api.Token{name(8, "c")}},
		{"#\r\nc", []api.Token{name(3, "c")}},
	} {
		got, err, at := Lex(test.text)
		if !slices.Equal(got, test.want) || err != api.OK || at != 0 {
			t.Errorf("%q: %v, %d, %d, want %v", test.text, got, err, at, test.want)
		}
		testLex(t, test.text)
	}
}

// fails fails the test if a text has not this error at this place, or tokens.
func fails(t *testing.T, text string, want api.Errno, wantAt int) {
	t.Helper()
	got, err, at := Lex(text)
	if len(got) != 0 || err != want || at != wantAt {
		t.Errorf("%.60q: %d tokens, %d, %d, want %d, %d", text, len(got), err, at, want, wantAt)
	}
	testLex(t, text)
}

// passes fails the test if a text has an error, or not as many tokens.
func passes(t *testing.T, text string, count int) []api.Token {
	t.Helper()
	got, err, at := Lex(text)
	if len(got) != count || err != api.OK || at != 0 {
		t.Fatalf("%.60q: %d tokens, %d, %d, want %d tokens", text, len(got), err, at, count)
	}
	testLex(t, text)
	return got
}

func TestErrorsOfTokens(t *testing.T) {
	for _, test := range []struct {
		text string
		err  api.Errno
		at   int
	}{
		{"a !b", api.ErrChar, 2},
		{"!", api.ErrChar, 0},
		{"a!", api.ErrChar, 1},
		{"! =", api.ErrChar, 0},
		{"!\n=", api.ErrChar, 0},
		{"!#\n=", api.ErrChar, 0},
		{"!!=", api.ErrChar, 0},
		{"!=!", api.ErrChar, 2},
		{"!<=", api.ErrChar, 0},
		{"_", api.ErrChar, 0},
		{"_a", api.ErrChar, 0},
		{"a _1", api.ErrChar, 2},
		{"a\u00e4", api.ErrChar, 1},
		{"\"x\"\u00e4", api.ErrChar, 3},
		{"a\r\n", api.ErrChar, 1},
		{"\v", api.ErrChar, 0},
		{"\f", api.ErrChar, 0},
		{"\u00a0", api.ErrChar, 0},
		{"\ufeffa", api.ErrChar, 0},
		{"7x", api.ErrNumber, 0},
		{"a 7_", api.ErrNumber, 2},
		{"0Z", api.ErrNumber, 0},
		{"0x1", api.ErrNumber, 0},
		{"7.5e", api.ErrNumber, 2},
		{"7 8y", api.ErrNumber, 2},
		{"\"", api.ErrEnd, 0},
		{"a \"b", api.ErrEnd, 2},
		{"\"a\"\"", api.ErrEnd, 3},
		{"\"a\nb\"", api.ErrEnd, 0},
		{"\"\n\"", api.ErrEnd, 0},
		{"\"a#\nb", api.ErrEnd, 0},
		{"#\"\n\"", api.ErrEnd, 3},
	} {
		fails(t, test.text, test.err, test.at)
	}
}

// begins tells what should stand at the beginning of a text with this byte.
func begins(b byte) api.Errno {
	switch {
	case strings.IndexByte(" \t\n#;,.:()[]{}=<>+-", b) >= 0,
		b >= '0' && b <= '9', b >= 'A' && b <= 'Z', b >= 'a' && b <= 'z':
		return api.OK
	case b == '"':
		return api.ErrEnd
	}
	return api.ErrChar
}

// Each byte is tried alone, and between two others.
func TestEachByte(t *testing.T) {
	for b := range 256 {
		alone := string([]byte{byte(b)})
		got, err, at := Lex(alone)
		if err != begins(byte(b)) || at != 0 {
			t.Errorf("%q: %v, %d, %d", alone, got, err, at)
		}
		for _, first := range pieces {
			testLex(t, first+alone)
			for _, last := range []string{"a", "7", "_", "=", "\"", "\n", " ;"} {
				testLex(t, first+alone+last)
			}
		}
		want := []api.Token{str(0, alone)}
		if got, _, _ := Lex("\"" + alone + "\""); b != '"' && b != '\n' && !slices.Equal(got, want) {
			t.Errorf("%q in quotes: %v", alone, got)
		}
		if got, err, at := Lex("#" + alone + "\nx"); b != '\n' && (!slices.Equal(got, []api.Token{name(3, "x")}) || err != api.OK || at != 0) {
			t.Errorf("%q in a comment: %v, %d, %d", alone, got, err, at)
		}
	}
}

func TestNamesOfManyBytes(t *testing.T) {
	for n := 1; n <= 24; n++ {
		for _, text := range []string{many(n, "a"), "Z" + many(n-1, "_"), "b" + many(n-1, "9")} {
			if got := passes(t, text, 1); got[0] != name(0, text) {
				t.Errorf("%q: %v", text, got)
			}
			passes(t, text+" "+text, 2)
		}
	}
	for _, n := range []int{25, 26, 48, 49, 400, 401, 19998} {
		text := many(n, "a")
		fails(t, text, api.ErrLimit, 0)
		fails(t, "\n"+text, api.ErrLimit, 1)
		fails(t, "a "+text, api.ErrLimit, 2)
	}
	fails(t, many(24, "a")+"_", api.ErrLimit, 0)
	fails(t, many(24, "a")+"0", api.ErrLimit, 0)
	passes(t, many(24, "a")+";"+many(24, "a"), 3)
}

func TestNumbersOfManyDigits(t *testing.T) {
	n := 0
	for digits := 1; digits <= 13; digits++ {
		n = n*10 + digits%10
		text := fmt.Sprint(n)
		if got := passes(t, text, 1); got[0] != number(0, text, n) {
			t.Errorf("%s: %v", text, got)
		}
		zeros := many(digits-1, "0") + "5"
		if got := passes(t, zeros, 1); got[0] != number(0, zeros, 5) {
			t.Errorf("%s: %v", zeros, got)
		}
		for _, last := range "azAZ_" {
			fails(t, "x "+text+string(last), api.ErrNumber, 2)
		}
		for _, last := range []string{" a", "\na", "\"a\"", ";", "-", "<", "#\na"} {
			passes(t, text+last, 2)
		}
		passes(t, text+"#a", 1)
	}
	for _, digits := range []int{14, 15, 18, 19, 20, 40, 20000} {
		fails(t, many(digits, "0"), api.ErrNumber, 0)
		fails(t, many(digits, "9"), api.ErrNumber, 0)
	}
	fails(t, "1 00000000000007", api.ErrNumber, 2)
	fails(t, "12345678901234x", api.ErrNumber, 0)
	fails(t, "99999999999999 1", api.ErrNumber, 0)
	passes(t, "9999999999999 9999999999999", 2)
}

func TestStringsOfManyBytes(t *testing.T) {
	for _, inner := range []string{many(399, "s"), many(400, "s"), many(200, "\u00e4"), many(400, "\xff"), many(400, "#")} {
		text := "\"" + inner + "\""
		if got := passes(t, text, 1); got[0] != str(0, inner) {
			t.Errorf("%q: %v", text, got)
		}
		passes(t, text+text, 2)
		fails(t, text[:len(text)-1], api.ErrEnd, 0)
		fails(t, text[:len(text)-1]+"\n\"", api.ErrEnd, 0)
	}
	for _, inner := range []string{many(401, "s"), many(402, "s"), many(9990, "s"), many(201, "\u00e4"), many(401, "\xff"), many(134, "\u20ac"), many(401, " ")} {
		text := "a \"" + inner + "\""
		fails(t, text, api.ErrLimit, 2)
		fails(t, text[:len(text)-1], api.ErrEnd, 2)              // it has no end
		fails(t, text[:len(text)-1]+"\n\"", api.ErrEnd, 2)       // nor here
		fails(t, "# "+text+"\n"+text, api.ErrLimit, len(text)+5) // the first one is in a comment
	}
}

func TestManyTokens(t *testing.T) {
	for _, piece := range []string{";", "; ", "\"\"", "<=", "a ", "7\n", ";#\n", "\"ab\""} {
		n := len(piece)
		passes(t, many(4999, piece), 4999)
		passes(t, many(5000, piece), 5000)
		if n < 4 {
			passes(t, many(5000, piece)+"# x", 5000)
			fails(t, many(5001, piece), api.ErrLimit, 5000*n)
			fails(t, many(5002, piece), api.ErrLimit, 5000*n)
			fails(t, many(5000, piece)+" #\n x", api.ErrLimit, 5000*n+4)
			fails(t, many(5000, piece)+" 7", api.ErrLimit, 5000*n+1)
			fails(t, many(5000, piece)+" \"\"", api.ErrLimit, 5000*n+1)
		}
	}
}

// Where the 5001st token should be, what is no token has its own error.
func TestErrorsAfterManyTokens(t *testing.T) {
	full := many(5000, ";")
	fails(t, full+"!", api.ErrChar, 5000)
	fails(t, full+" \xff", api.ErrChar, 5001)
	fails(t, full+"7x", api.ErrNumber, 5000)
	fails(t, full+many(14, "1"), api.ErrNumber, 5000)
	fails(t, full+"\"x", api.ErrEnd, 5000)
	fails(t, full+"\""+many(401, "x")+"\"", api.ErrLimit, 5000)
	fails(t, full+many(25, "x"), api.ErrLimit, 5000)
	fails(t, full+";!", api.ErrLimit, 5000) // comes first
	fails(t, many(4999, ";")+"!;", api.ErrChar, 4999)
	fails(t, many(4999, ";")+"7x", api.ErrNumber, 4999)
}

func TestLongTexts(t *testing.T) {
	for _, length := range []int{19999, 20000} {
		passes(t, many(length, " "), 0)
		passes(t, many(length, "\n"), 0)
		passes(t, "#"+many(length-1, "!"), 0)
		passes(t, many(5000, ";")+many(length-5000, "\t"), 5000)
		passes(t, many(length-1, " ")+"x", 1)
		fails(t, many(length-1, " ")+"!", api.ErrChar, length-1)
		fails(t, "!"+many(length-1, " "), api.ErrChar, 0)
		fails(t, "\""+many(length-2, " ")+"\"", api.ErrLimit, 0)
		fails(t, "\""+many(length-1, " "), api.ErrEnd, 0)
		fails(t, many(length, ";"), api.ErrLimit, 5000)
		fails(t, many(length, "a"), api.ErrLimit, 0)
	}
	for _, length := range []int{20001, 20002, 40000, 1 << 20} {
		for _, piece := range []string{" ", "\n", "#", "!", ";", "a", "7", "\"", "\xff"} {
			fails(t, many(length, piece), api.ErrLimit, -1)
		}
		fails(t, "x"+many(length-1, " "), api.ErrLimit, -1)
	}
	passes(t, "#"+many(6666, "\u20ac"), 0)               // 19999 bytes
	fails(t, "#"+many(6667, "\u20ac"), api.ErrLimit, -1) // 20002 bytes, fewer letters
}

// Of several errors, the first one from left to right is returned.
func TestWhichErrorComesFirst(t *testing.T) {
	wrong := []struct {
		text string
		err  api.Errno
	}{
		{"!", api.ErrChar}, {"\xff", api.ErrChar}, {many(25, "a"), api.ErrLimit}, {"7x", api.ErrNumber},
		{many(14, "7"), api.ErrNumber}, {"\"a", api.ErrEnd}, {"\"" + many(401, "a") + "\"", api.ErrLimit},
	}
	for _, first := range wrong {
		for _, second := range wrong {
			fails(t, first.text+"\n"+second.text, first.err, 0)
			fails(t, "a \"b\" # \"\n;"+first.text+"\n"+second.text, first.err, 11)
		}
		fails(t, "# "+first.text+"\n !", api.ErrChar, len(first.text)+4)
	}
}

func TestAsTheChapterSays(t *testing.T) {
	joined(5, short, func(text string) { testLex(t, text) })
	joined(3, pieces, func(text string) { testLex(t, text) })
	long(5000, func(text string) { testLex(t, text) })
}

// Long texts, with each of their beginnings and ends.
func TestBeginningsAndEnds(t *testing.T) {
	long(40, func(text string) {
		for i := range len(text) {
			testLex(t, text[:i])
			testLex(t, text[i:])
		}
	})
}

// P1: all texts have an answer, which has either tokens or an error.
func TestStrangeTexts(t *testing.T) {
	for a := range 256 {
		for b := range 256 {
			testLex(t, string([]byte{byte(a), byte(b)}))
		}
	}
	for _, text := range []string{"\xc3", "\xe2\x82", "a\xf0\x9f", many(300, "\xff\xfe"), "\"\xc3", "#\xc3", "\U0010ffff", "7\xc3\xa4", "<\x00="} {
		testLex(t, text)
	}
}

// P3: equal texts have equal tokens, whatever was asked before, and whatever
// is done to the tokens of another call.
func TestIndependence(t *testing.T) {
	for _, text := range []string{"a 7 \"s\" <= ;", many(5000, ";"), "a !", ""} {
		want, wantErr, wantAt := specLex(text)
		for _, other := range []string{text, "x y", "!", many(5001, ";"), many(20001, ";")} {
			tokens, _, _ := Lex(other)
			for i := range tokens {
				tokens[i] = api.Token{}
			}
			got, err, at := Lex(text)
			if !slices.Equal(got, want) || err != wantErr || at != wantAt {
				t.Errorf("%.20q after %.20q: %v, %d, %d", text, other, got, err, at)
			}
		}
	}
}

// Callers at the same time have each the tokens of their own text.
func TestSeveralCallers(t *testing.T) {
	done := make(chan string)
	texts := []string{"a 7 \"s\" <= ;", many(5000, ";"), "a !", "\"x"}
	for _, text := range texts {
		go func() {
			wrong := ""
			want, wantErr, wantAt := specLex(text)
			for range 50 {
				got, err, at := Lex(text)
				if !slices.Equal(got, want) || err != wantErr || at != wantAt {
					wrong = text
				}
			}
			done <- wrong
		}()
	}
	for range texts {
		if text := <-done; text != "" {
			t.Errorf("%.20q", text)
		}
	}
}
