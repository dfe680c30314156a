package lexer

import (
	"math/rand"
	"regexp"
	"slices"
	"strconv"
	"strings"
	"testing"

	"gazetteer/api"
)

// The chapter's words written down once more, as directly as possible, as
// regular expressions. Nothing here is taken from the code under test.

var (
	specGaps   = regexp.MustCompile(`^(?:[ \t\n]|#[^\n]*)*`)
	specName   = regexp.MustCompile(`^[A-Za-z][A-Za-z0-9_]*`)
	specNumber = regexp.MustCompile(`^[0-9]+`)
	specBad    = regexp.MustCompile(`^[0-9]+[A-Za-z_]`) // directly followed
	specString = regexp.MustCompile(`^"[^"\n]*"`)
	specSymbol = regexp.MustCompile(`^(?:!=|<=|>=|[;,.:()\[\]{}=<>+-])`)
)

// specToken returns the token with which a text begins, and its bytes.
func specToken(text string) (api.Token, string, api.Errno) {
	if s := specName.FindString(text); s != "" {
		return atMost(24, s, api.Token{Kind: api.TokName, Text: s}, s, api.ErrLimit)
	}
	if specBad.MatchString(text) {
		return api.Token{}, "", api.ErrNumber
	}
	if s := specNumber.FindString(text); s != "" {
		n, _ := strconv.ParseInt(s, 10, 64)
		return atMost(13, s, api.Token{Kind: api.TokNumber, Text: s, N: int(n)}, s, api.ErrNumber)
	}
	if s := specString.FindString(text); s != "" {
		inner := strings.Trim(s, "\"")
		return atMost(400, inner, api.Token{Kind: api.TokString, Text: inner}, s, api.ErrLimit)
	}
	if strings.HasPrefix(text, "\"") {
		return api.Token{}, "", api.ErrEnd
	}
	if s := specSymbol.FindString(text); s != "" {
		return api.Token{Kind: api.TokSymbol, Text: s}, s, api.OK
	}
	return api.Token{}, "", api.ErrChar
}

// atMost returns the token, if what is limited has at most as many bytes, or
// the error.
func atMost(limit int, limited string, t api.Token, bytes string, err api.Errno) (api.Token, string, api.Errno) {
	if len(limited) > limit {
		return api.Token{}, "", err
	}
	return t, bytes, api.OK
}

// specLex is what D1 says of Lex.
func specLex(text string) ([]api.Token, api.Errno, int) {
	if len(text) > 20000 {
		return nil, api.ErrLimit, -1
	}
	var tokens []api.Token
	at := len(specGaps.FindString(text))
	for at < len(text) {
		t, bytes, err := specToken(text[at:])
		if err != api.OK {
			return nil, err, at
		}
		if len(tokens) == 5000 {
			return nil, api.ErrLimit, at
		}
		t.At = at
		tokens = append(tokens, t)
		at += len(bytes)
		at += len(specGaps.FindString(text[at:]))
	}
	return tokens, api.OK, 0
}

// isGap reports whether a text consists of gaps alone.
func isGap(text string) bool {
	return specGaps.FindString(text) == text
}

// isToken reports whether a whole text is one token.
func isToken(text string) bool {
	_, bytes, err := specToken(text)
	return err == api.OK && bytes == text
}

// written returns the bytes of a token.
func written(t api.Token) string {
	if t.Kind == api.TokString {
		return "\"" + t.Text + "\""
	}
	return t.Text
}

// shifted returns tokens that stand further behind.
func shifted(tokens []api.Token, by int) []api.Token {
	l := slices.Clone(tokens)
	for i := range l {
		l[i].At += by
	}
	return l
}

// many returns a text n times.
func many(n int, text string) string { return strings.Repeat(text, n) }

// unplaced returns tokens without their places.
func unplaced(tokens []api.Token) []api.Token {
	l := slices.Clone(tokens)
	for i := range l {
		l[i].At = 0
	}
	return l
}

// pieces are what texts are made of: tokens, gaps, and what is neither.
var pieces = []string{
	"a", "Zz_09", "x_", many(23, "n"), many(24, "N"), many(24, "_"),
	"0", "007", "9999999999999", "999999999999", "1234567890123",
	"\"", "\"\"", "\"#\"", "\"a b\"", "\"\xff\x00\t\"", "\"" + many(399, "s"), "\"" + many(400, "s") + "\"",
	"!", "=", "!=", "<", ">", "<=", ">=", ";", ",", ".", ":", "(", ")", "[", "]", "{", "}", "+", "-",
	" ", "\t", "\n", "#", "# a \"!", "#\xc3\xa4\n", "_", "\r", "\x00", "\x80", "\u00e4", "@", "/", "'",
}

// joined passes all texts of up to n of some parts.
func joined(n int, parts []string, pass func(text string)) {
	pass("")
	if n == 0 {
		return
	}
	joined(n-1, parts, func(text string) {
		for _, part := range parts {
			pass(text + part)
		}
	})
}

// short are bytes of which texts are made, some of each class.
var short = strings.Split("a_7\"!=<;# \n\x80", "")

// long passes texts of many pieces, each of them chosen by a fixed row of
// numbers. Pieces that are errors alone are rare, so that texts get long.
func long(n int, pass func(text string)) {
	row := rand.New(rand.NewSource(4))
	for range n {
		var b strings.Builder
		for range row.Intn(60) {
			p := pieces[row.Intn(len(pieces))]
			_, err, _ := specLex(p)
			if err == api.OK || row.Intn(40) == 0 {
				b.WriteString(p)
			}
			if row.Intn(3) > 0 {
				b.WriteString([]string{" ", "\n", "\t#\n", "# x\n"}[row.Intn(4)])
			}
		}
		pass(b.String())
	}
}

// all passes the texts for which the promises are tested.
func all(pass func(text string)) {
	joined(4, short, pass)
	joined(2, pieces, pass)
	long(2000, pass)
}

// allValid passes those of them that have no error, with their tokens.
func allValid(t *testing.T, pass func(text string, tokens []api.Token)) {
	t.Helper()
	count := 0
	all(func(text string) {
		if tokens, err, _ := Lex(text); err == api.OK {
			count++
			pass(text, tokens)
		}
	})
	if count < 5000 {
		t.Errorf("only %d texts without an error", count)
	}
}

// testLex fails the test if the tokens or the error of a text are not those of
// the chapter.
func testLex(t *testing.T, text string) {
	t.Helper()
	got, err, at := Lex(text)
	want, wantErr, wantAt := specLex(text)
	if !slices.Equal(got, want) || err != wantErr || at != wantAt {
		t.Fatalf("%.60q: %v, %d, %d, want %v, %d, %d", text, got, err, at, want, wantErr, wantAt)
	}
}
