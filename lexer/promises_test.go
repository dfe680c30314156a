package lexer

import (
	"fmt"
	"slices"
	"strings"
	"testing"

	"gazetteer/api"
)

// testPlaces fails the test if a token is not at its place, or if there is more
// than gaps between tokens (P4.2).
func testPlaces(t *testing.T, text string, tokens []api.Token) {
	t.Helper()
	end := 0
	for i, token := range tokens {
		if i > 0 && token.At <= tokens[i-1].At {
			t.Fatalf("%q: the places of %v do not increase", text, tokens)
		}
		if token.At < end || !strings.HasPrefix(text[token.At:], written(token)) {
			t.Fatalf("%q: %v is not there", text, token)
		}
		if !isGap(text[end:token.At]) {
			t.Fatalf("%q: %q before %v is no gap", text, text[end:token.At], token)
		}
		end = token.At + len(written(token))
	}
	if !isGap(text[end:]) {
		t.Fatalf("%q: %q at the end is no gap", text, text[end:])
	}
}

func TestPlaces(t *testing.T) {
	allValid(t, func(text string, tokens []api.Token) {
		testPlaces(t, text, tokens)
	})
}

// rewritten returns tokens as a text, with one blank after each.
func rewritten(tokens []api.Token) string {
	var b strings.Builder
	for _, token := range tokens {
		b.WriteString(written(token) + " ")
	}
	return b.String()
}

// P4.3
func TestTokensAreReadAgain(t *testing.T) {
	allValid(t, func(text string, tokens []api.Token) {
		again, err, at := Lex(rewritten(tokens))
		if !slices.Equal(unplaced(again), unplaced(tokens)) || err != api.OK || at != 0 {
			t.Fatalf("%q, written again: %v, %d, %d", text, again, err, at)
		}
	})
	for _, test := range []struct{ count, length int }{{5000, 4}, {5000, 3}, {50, 400}, {50, 399}} {
		tokens := passes(t, many(test.count, "\""+many(test.length-2, "s")+"\""), test.count)
		text := rewritten(tokens)
		if len(text) > 20000 {
			fails(t, text, api.ErrLimit, -1)
		} else if again := passes(t, text, test.count); !slices.Equal(unplaced(again), unplaced(tokens)) {
			t.Errorf("%d strings of %d bytes", test.count, test.length)
		}
	}
}

// testParts fails the test if the tokens of two texts with a line feed between
// them are not those of both (P4.4).
func testParts(t *testing.T, a, b string) {
	t.Helper()
	first, err1, _ := Lex(a)
	second, err2, _ := Lex(b)
	if err1 != api.OK || err2 != api.OK {
		return
	}
	got, err, at := Lex(a + "\n" + b)
	want := slices.Concat(first, shifted(second, len(a)+1))
	if !slices.Equal(got, want) || err != api.OK || at != 0 {
		t.Fatalf("%q and %q: %v, %d, %d, want %v", a, b, got, err, at, want)
	}
}

func TestParts(t *testing.T) {
	joined(1, pieces, func(a string) {
		joined(2, pieces, func(b string) {
			testParts(t, a, b)
			testParts(t, b, a)
		})
	})
	last := ""
	long(2000, func(text string) {
		testParts(t, last, text)
		last = text
	})
}

func TestPartsAtTheLimits(t *testing.T) {
	testParts(t, many(2500, ";"), many(2500, "a "))
	fails(t, many(2500, ";")+"\n"+many(2501, "a "), api.ErrLimit, 7501)
	testParts(t, many(10000, " "), many(9999, "\t"))
	fails(t, many(10000, " ")+"\n"+many(10000, "\t"), api.ErrLimit, -1)
	testParts(t, many(24, "a"), many(24, "a"))
	testParts(t, many(13, "7"), "x")
	testParts(t, "<", "=")
	testParts(t, "# x", "y")
}

// aboutCount tells whether the error at a place is about the number of tokens:
// there is a token.
func aboutCount(text string, at int) bool {
	_, _, err := specToken(text[at:])
	return err == api.OK
}

// testBeginnings fails the test if an error is not the first one, or does not
// stand at its place (P4.5).
func testBeginnings(t *testing.T, text string) {
	t.Helper()
	_, err, at := Lex(text)
	if err == api.OK || at == -1 {
		return
	}
	if _, before, place := Lex(text[:at]); before != api.OK || place != 0 {
		t.Fatalf("%.60q: the text before %d has the error %d at %d", text, at, before, place)
	}
	if tokens, again, place := Lex(text[at:]); !aboutCount(text, at) && (again != err || place != 0 || len(tokens) != 0) {
		t.Fatalf("%.60q: the text from %d on has the error %d at %d, not %d", text, at, again, place, err)
	}
}

func TestBeginningsOfErrors(t *testing.T) {
	count := 0
	all(func(text string) {
		testBeginnings(t, text)
		if _, err, _ := Lex(text); err != api.OK {
			count++
		}
	})
	if count < 5000 {
		t.Errorf("only %d texts with an error", count)
	}
	for _, last := range []string{"", "!", "7x", "\"", many(25, "x"), ";;"} {
		testBeginnings(t, many(4999, "; ")+last)
		testBeginnings(t, many(5000, "; ")+last)
		testBeginnings(t, many(5001, "; ")+last)
	}
}

// closed are gaps after which no comment goes on.
var closed = []string{" ", "\t", "\n", "\n\n ", "#\n", " # a \"! 7x\n", "#\xff\n\t#\n"}

// testGaps fails the test if a gap at a place changes more than offsets (P4.6).
func testGaps(t *testing.T, text string, tokens []api.Token, gap string, at int) {
	t.Helper()
	want := slices.Clone(tokens)
	for i := range want {
		if want[i].At >= at {
			want[i].At += len(gap)
		}
	}
	got, err, place := Lex(text[:at] + gap + text[at:])
	if !slices.Equal(got, want) || err != api.OK || place != 0 {
		t.Fatalf("%q with %q at %d: %v, %d, %d, want %v", text, gap, at, got, err, place, want)
	}
}

func TestGaps(t *testing.T) {
	allValid(t, func(text string, tokens []api.Token) {
		for _, gap := range closed {
			testGaps(t, text, tokens, gap, 0)
			testGaps(t, text, tokens, gap, len(text))
			for _, token := range tokens {
				testGaps(t, text, tokens, gap, token.At+len(written(token)))
			}
		}
		for _, gap := range []string{"#", " # a \"! 7x"} { // with which a text may end
			testGaps(t, text, tokens, gap, len(text))
		}
	})
}

func TestGapsAtTheLimits(t *testing.T) {
	text := many(5000, ";")
	tokens := passes(t, text, 5000)
	for _, gap := range []string{many(15000, " "), many(15000, "\n"), "#" + many(14998, "!") + "\n"} {
		for _, at := range []int{0, 1, 2500, 4999, 5000} {
			testGaps(t, text, tokens, gap, at)
			fails(t, text[:at]+gap+"\n"+text[at:], api.ErrLimit, -1)
		}
	}
}

// P4.7
func TestTokensAreLongest(t *testing.T) {
	count := 0
	allValid(t, func(text string, tokens []api.Token) {
		for i := 1; i < len(tokens); i++ {
			a, b := tokens[i-1], tokens[i]
			if b.At != a.At+len(written(a)) {
				continue
			}
			count++
			if isToken(written(a) + written(b)) {
				t.Fatalf("%q: %v and %v are one token", text, a, b)
			}
			if got, err, _ := Lex(written(a) + written(b)); err == api.OK && len(got) != 2 {
				t.Fatalf("%q: %v and %v are %v", text, a, b, got)
			}
		}
	})
	if count < 1000 {
		t.Errorf("only %d tokens directly after another one", count)
	}
}

// one fails the test if a text is not this token alone (P4.8).
func one(t *testing.T, text string, want api.Token) {
	t.Helper()
	if got, err, at := Lex(text); !slices.Equal(got, []api.Token{want}) || err != api.OK || at != 0 {
		t.Errorf("%q: %v, %d, %d, want %v", text, got, err, at, want)
	}
}

func TestWordsAreNames(t *testing.T) {
	letters := "ABCDEFGHIJKLMNOPQRSTUVWXYZabcdefghijklmnopqrstuvwxyz"
	for i := range len(letters) {
		first := letters[i : i+1]
		one(t, first, name(0, first))
		for _, next := range letters + "0123456789_" {
			text := first + string(next)
			one(t, text, name(0, text))
			text = first + many(23, string(next))
			one(t, text, name(0, text))
		}
	}
}

func TestDigitsAreNumbers(t *testing.T) {
	for n := range 20000 {
		one(t, fmt.Sprint(n), number(0, fmt.Sprint(n), n))
	}
	for power := 1; power <= 1000000000000; power *= 10 {
		for _, n := range []int{power - 1, power, power + 1, 2*power + 3, 7*power - 1, 10*power - 1} {
			one(t, fmt.Sprint(n), number(0, fmt.Sprint(n), n))
		}
	}
	one(t, "9999999999999", number(0, "9999999999999", 9999999999999))
}

func TestQuotedTextsAreStrings(t *testing.T) {
	all(func(text string) {
		if len(text) <= 400 && !strings.ContainsAny(text, "\"\n") {
			one(t, "\""+text+"\"", str(0, text))
		}
	})
	for length := range 401 {
		for _, piece := range []string{"s", " ", "#", "\xff", "=", "7"} {
			one(t, "\""+many(length, piece)+"\"", str(0, many(length, piece)))
		}
	}
}
