package rules

import (
	"slices"
	"strconv"
	"strings"
	"testing"

	"gazetteer/api"
)

// parsed checks the rules of a text.
func parsed(t *testing.T, text string, want api.Rules) {
	t.Helper()
	if got, err, at := Parse(text); !same(got, want) || err != api.OK || at != 0 {
		t.Errorf("%.300q is parsed as %v, %v, %v", text, got, err, at)
	}
}

// wrong checks the error of a text, and its offset.
func wrong(t *testing.T, text string, want api.Errno, wantAt int) {
	t.Helper()
	if got, err, at := Parse(text); !zero(got) || err != want || at != wantAt {
		t.Errorf("%.300q is parsed as %v, %v, %v, not %v, %v", text, got, err, at, want, wantAt)
	}
}

// K3: the texts of known rules.
func TestText(t *testing.T) {
	for _, x := range []struct {
		r    api.Rules
		want string
	}{
		{sample(), "rules p to q;\n\"a\" to \"x\";\n\"b\" to \"y\";\n\"n\" to \"z\";\n\"n\" to \"y\" before \"b\";\n\"ab\" to \"z\";\n\"a\" to \"\" at end;\n"},
		{ruled(api.Rule{From: "a"}), "rules p to q;\n\"a\" to \"\";\n"},
		{ruled(api.Rule{From: "a", End: true}), "rules p to q;\n\"a\" to \"\" at end;\n"},
		{ruled(api.Rule{From: "a", Next: "bn"}), "rules p to q;\n\"a\" to \"\" before \"bn\";\n"},
		{api.Rules{From: "Z_9", To: "Z_9", List: []api.Rule{{From: "#", To: ";"}}}, "rules Z_9 to Z_9;\n\"#\" to \";\";\n"},
		{api.Rules{From: "rules", To: "to", List: []api.Rule{{From: "to", To: "at", Next: "end"}}}, "rules rules to to;\n\"to\" to \"at\" before \"end\";\n"},
		{ruled(api.Rule{From: "\\n%d'`~!", To: "\\\\"}), "rules p to q;\n\"\\n%d'`~!\" to \"\\\\\";\n"},
	} {
		if got, err := Text(x.r); got != x.want || err != api.OK {
			t.Errorf("%v: %q, %v", x.r, got, err)
		}
		parsed(t, x.want, x.r)
	}
	// The longest text of all.
	names := strings.Repeat("n", 24)
	r := api.Rules{From: names, To: names}
	want := "rules " + names + " to " + names + ";\n"
	for i := range 80 {
		from := "1234567" + strconv.Itoa(10+i)
		next := strings.Repeat("b", 30)
		r.List = append(r.List, api.Rule{From: from, To: "123456789", Next: next})
		want += "\"" + from + "\" to \"123456789\" before \"" + next + "\";\n"
	}
	if got, err := Text(r); got != want || err != api.OK {
		t.Errorf("%q, %v", got, err)
	}
	parsed(t, want, r)
}

// K4: texts with rules.
func TestParse(t *testing.T) {
	a := api.Rule{From: "a", To: "x"}
	parsed(t, "rules p to q; \"n\" to \"y\" before \"b\";", ruled(api.Rule{From: "n", To: "y", Next: "b"}))
	parsed(t, "rules p to q;\"a\"to\"x\";", ruled(a))
	parsed(t, "\n\t rules\tp\nto q ; \"a\" to \"x\" ;\n", ruled(a))
	parsed(t, "rules p to q; # \"b\" to \"y\";\n\"a\" to \"x\"; # \"b\" to \"y\";", ruled(a))
	parsed(t, "# rules\nrules#\np#\nto#\nq#\n;#\n\"a\"#\nto#\n\"x\"#\n;#", ruled(a))
	parsed(t, "rules p to q;\"a\"to\"\"at end;\"a\"to\"\"before\"n\";\"a\"to\"\";", ruled(api.Rule{From: "a", End: true}, api.Rule{From: "a", Next: "n"}, api.Rule{From: "a"}))
	parsed(t, "rules rules to to; \"rules\" to \"to\" before \";\";", api.Rules{From: "rules", To: "to", List: []api.Rule{{From: "rules", To: "to", Next: ";"}}})
	parsed(t, "rules before to at; \"before\" to \"at\" at end; \"at\" to \"end\" before \"before\";", api.Rules{From: "before", To: "at", List: []api.Rule{{From: "before", To: "at", End: true}, {From: "at", To: "end", Next: "before"}}})
	parsed(t, "rules end to end; \"end\" to \"end\" at end;", api.Rules{From: "end", To: "end", List: []api.Rule{{From: "end", To: "end", End: true}}})
	// What is parsed need not be valid for any alphabets.
	parsed(t, "rules p to p; \"abcdefghi\" to \"123456789\" before \"aaaaaaaaaaaaaaaaaaaaaaaaaaaaaa\";", api.Rules{From: "p", To: "p", List: []api.Rule{{From: "abcdefghi", To: "123456789", Next: strings.Repeat("a", 30)}}})
	long := "rules p to q; \"a\" to \"x\";"
	parsed(t, long+strings.Repeat(" ", 20000-len(long)), ruled(a))
	parsed(t, strings.Repeat("\n", 20000-len(long))+long, ruled(a))
	parsed(t, long+"#"+strings.Repeat("\xff", 19999-len(long)), ruled(a))
}

// manyRules returns a text of so many rules, at most 1560, and a text behind them.
func manyRules(count int, behind string) string {
	var b strings.Builder
	b.WriteString("rules p to q;")
	for _, rule := range numbered(count) {
		b.WriteString(" \"" + rule.From + "\" to \"" + rule.To + "\";")
	}
	return b.String() + behind
}

// K4: 1, 80 and 81 rules.
func TestParseNumbers(t *testing.T) {
	for _, count := range []int{1, 2, 79, 80} {
		parsed(t, manyRules(count, ""), ruled(numbered(count)...))
		parsed(t, manyRules(count, " # no more"), ruled(numbered(count)...))
	}
	size := len(manyRules(80, ""))
	for _, behind := range []string{
		" \"b\" to \"zzz\";", " \"b\"", " \"b\" x", " \"b\" to \"zzz\"; ;", " \"\" to \"x\";", " \"a a\" to \"x\";", " \"0123456789\";",
		" \"a\" to \"\";", " \"b\" to \"b b\";", " \"b\" \"b\"", " \"a\";;", " \"a\" to \"a\" at 7", " \"a\" to \"a\" before \"\"",
	} {
		wrong(t, manyRules(80, behind), api.ErrLimit, size+1)
		wrong(t, manyRules(80, " # one more\n\n"+behind), api.ErrLimit, size+14)
	}
	for _, behind := range []string{" x", " ;", " to", " 7", " rules", " +", " b \"b\"", " ; \"b\""} {
		wrong(t, manyRules(80, behind), api.ErrSyntax, size+1)
		wrong(t, manyRules(79, behind), api.ErrSyntax, len(manyRules(79, ""))+1)
	}
	for _, count := range []int{81, 82, 160, 400} {
		wrong(t, manyRules(count, ""), api.ErrLimit, size+1)
	}
	// Errors before the 81st rule come first.
	wrong(t, strings.Replace(manyRules(81, ""), "\"b\" to", "\"b\" for", 1), api.ErrSyntax, 29)
	wrong(t, strings.Replace(manyRules(81, ""), "\"b\" to", "\"b b\" to", 1), api.ErrArg, 25)
	wrong(t, strings.Replace(manyRules(81, ""), "\"b\" to \"\";", "\"a\" to \"\";", 1), api.ErrTwice, 34)
	wrong(t, manyRules(79, " \"a\" to \"\"; \"b\" to \"zzz\";"), api.ErrTwice, len(manyRules(79, ""))+10)
	wrong(t, manyRules(80, " \"b\" to ?;"), api.ErrChar, size+8)
}

// K4: the errors of the lexer come first, also behind others, and with their offsets.
func TestLexerErrors(t *testing.T) {
	for _, before := range []string{"", " ", "rules p to q; ", "rules p to q; \"a\" to \"x\"; ", "; ", "rules rules ", "rules p to q; \"\" to \"x\"; ", "rules p to q; \"a\" to \"\"; \"a\" to \"\"; ", "7 ", manyRules(81, " ")} {
		for _, x := range []struct {
			text string
			err  api.Errno
		}{
			{"?", api.ErrChar}, {"!", api.ErrChar}, {"\x00", api.ErrChar}, {"_", api.ErrChar}, {"\xff", api.ErrChar}, {"'a' to 'x';", api.ErrChar},
			{strings.Repeat("n", 25), api.ErrLimit}, {"7x", api.ErrNumber}, {"12345678901234", api.ErrNumber},
			{"\"", api.ErrEnd}, {"\"a", api.ErrEnd}, {"\"a\n\"", api.ErrEnd}, {"\"" + strings.Repeat("a", 401) + "\"", api.ErrLimit},
		} {
			wrong(t, before+x.text, x.err, len(before))
			wrong(t, before+x.text+"\n\"b\" to \"y\";", x.err, len(before))
		}
		wrong(t, before+strings.Repeat(" ", 20001-len(before)), api.ErrLimit, -1)
		wrong(t, before+strings.Repeat("?", 20001-len(before)), api.ErrLimit, -1)
	}
	wrong(t, strings.Repeat(";", 5000), api.ErrSyntax, 0)
	wrong(t, strings.Repeat(";", 5001), api.ErrLimit, 5000)
	wrong(t, "rules p to q; \"a\" to \"x\";"+strings.Repeat(";", 4990), api.ErrSyntax, 25)
	wrong(t, "rules p to q; \"a\" to \"x\";"+strings.Repeat(";", 4992), api.ErrLimit, 25+4991)
	long := "rules p to q; \"a\" to \"x\";"
	wrong(t, long+strings.Repeat(" ", 20001-len(long)), api.ErrLimit, -1)
	wrong(t, strings.Repeat("?", 1000000), api.ErrLimit, -1)
}

// piece is a token of a text with rules: what it is, and whether the rules may end
// behind it.
type piece struct {
	text string
	what string // a name, a word, a string, or a semicolon
	end  bool
}

// pieces are the tokens of a text with four rules. The words in quotes are both
// words and names; a string is one that may be a From, a To, or a Next.
func pieces() []piece {
	return []piece{
		{"rules", "word", false}, {"p", "name", false}, {"to", "word", false}, {"q", "name", false}, {";", "symbol", false},
		{"\"a\"", "from", false}, {"to", "word", false}, {"\"x\"", "to", false}, {";", "open", true},
		{"\"b\"", "from", false}, {"to", "word", false}, {"\"\"", "to", false}, {"before", "begin", false}, {"\"bc\"", "next", false}, {";", "symbol", true},
		{"\"b\"", "from", false}, {"to", "word", false}, {"\"\"", "to", false}, {"at", "begin", false}, {"end", "word", false}, {";", "symbol", true},
		{"\"b\"", "from", false}, {"to", "word", false}, {"\"\"", "to", false}, {";", "open", true},
	}
}

// written returns the text of pieces with a gap between two, and the offset of each
// of them.
func written(list []piece, gap string) (string, []int) {
	text := ""
	var at []int
	for i, p := range list {
		if i > 0 {
			text += gap
		}
		at = append(at, len(text))
		text += p.text
	}
	return text, at
}

// K4: a text that ends at each of its tokens, and the gaps behind them.
func TestEnds(t *testing.T) {
	list := pieces()
	ends := 0
	for count := range len(list) + 1 {
		for _, gap := range []string{" ", "\n", "\t\n ", "# end\n", " # \"a\" to \"x\";\n"} {
			text, _ := written(list[:count], gap)
			for _, behind := range []string{"", " ", "\n\n", "#", "# ;", "\t# \"a\" to \"x\";\n "} {
				if count > 0 && list[count-1].end {
					got, err, at := Parse(text + behind)
					if zero(got) || err != api.OK || at != 0 {
						t.Errorf("%q is parsed as %v, %v, %v", text+behind, got, err, at)
					}
					ends++
				} else {
					wrong(t, text+behind, api.ErrEnd, len(text+behind))
				}
			}
		}
	}
	if ends != 4*5*6 {
		t.Errorf("%v ends", ends)
	}
	wrong(t, "", api.ErrEnd, 0)
	wrong(t, strings.Repeat(" ", 20000), api.ErrEnd, 20000)
	wrong(t, "rules p to q;", api.ErrEnd, 13)
}

// K4: each token that is wrong, in the place of each token of a text, and before it.
func TestSyntax(t *testing.T) {
	list := pieces()
	tokens := []string{"rules", "p", "x9", "to", "before", "at", "end", "Rules", "TO", ";", ",", ":", "=", "!=", "<=", "-", "(", "0", "7", "1234567890123", "\"a\"", "\"\"", "\";\"", "\"to\"", "\"end\"", "\"before\"", "\"rules\""}
	fits := func(p piece, token string) bool {
		name := 'A' <= token[0] && token[0] <= 'Z' || 'a' <= token[0] && token[0] <= 'z'
		switch p.what {
		case "name":
			return name
		case "word", "symbol":
			return token == p.text
		case "open":
			return token == ";" || token == "before" || token == "at"
		case "begin":
			return token == "before" || token == "at" || token == ";"
		}
		return token[0] == '"'
	}
	count := 0
	for i, p := range list {
		for _, token := range tokens {
			if fits(p, token) {
				continue
			}
			count++
			for _, gap := range []string{" ", "\n", " # to\n"} {
				change := slices.Clone(list)
				change[i].text = token
				text, at := written(change, gap)
				wrong(t, text, api.ErrSyntax, at[i])
				text, at = written(slices.Insert(slices.Clone(list), i, piece{text: token}), gap)
				wrong(t, text, api.ErrSyntax, at[i])
				text, at = written(change[:i+1], gap)
				wrong(t, text, api.ErrSyntax, at[i])
			}
		}
	}
	if count < 500 {
		t.Errorf("%v wrong tokens", count)
	}
	for _, token := range tokens {
		text, at := written(append(list, piece{text: token}), " ")
		if token[0] == '"' {
			continue
		}
		wrong(t, text, api.ErrSyntax, at[len(list)])
	}
}

// K4: each error at the first place where it can stand.
func TestFirstPlaces(t *testing.T) {
	wrong(t, "x", api.ErrSyntax, 0)
	wrong(t, "\"rules\" p to q; \"a\" to \"x\";", api.ErrSyntax, 0)
	wrong(t, "rule p to q;", api.ErrSyntax, 0)
	wrong(t, "RULES p to q;", api.ErrSyntax, 0)
	wrong(t, "rules 1", api.ErrSyntax, 6)
	wrong(t, "rules \"p\" to q;", api.ErrSyntax, 6)
	wrong(t, "rules p q;", api.ErrSyntax, 8)
	wrong(t, "rules p \"to\" q;", api.ErrSyntax, 8)
	wrong(t, "rules p to \"q\";", api.ErrSyntax, 11)
	wrong(t, "rules p to 1;", api.ErrSyntax, 11)
	wrong(t, "rules p to ;", api.ErrSyntax, 11)
	wrong(t, "rules p to q \";\"", api.ErrSyntax, 13)
	wrong(t, "rules p to q \"a\" to \"x\";", api.ErrSyntax, 13)
	wrong(t, "rules p to q, \"a\" to \"x\";", api.ErrSyntax, 12)
	wrong(t, "rules p to q;;", api.ErrSyntax, 13)
	wrong(t, "rules p to q; a to x;", api.ErrSyntax, 14)
	wrong(t, "rules p to q; \"a\" \"x\";", api.ErrSyntax, 18)
	wrong(t, "rules p to q; \"a\" \"to\" \"x\";", api.ErrSyntax, 18)
	wrong(t, "rules p to q; \"a\" to x;", api.ErrSyntax, 21)
	wrong(t, "rules p to q; \"a\" to \"x\" \"b\";", api.ErrSyntax, 25)
	wrong(t, "rules p to q; \"a\" to \"x\" end;", api.ErrSyntax, 25)
	wrong(t, "rules p to q; \"a\" to \"x\" \"before\" \"b\";", api.ErrSyntax, 25)
	wrong(t, "rules p to q; \"a\" to \"x\" \"at\" end;", api.ErrSyntax, 25)
	wrong(t, "rules p to q; \"a\" to \"x\" before;", api.ErrSyntax, 31)
	wrong(t, "rules p to q; \"a\" to \"x\" before b;", api.ErrSyntax, 32)
	wrong(t, "rules p to q; \"a\" to \"x\" before end;", api.ErrSyntax, 32)
	wrong(t, "rules p to q; \"a\" to \"x\" at \"b\";", api.ErrSyntax, 28)
	wrong(t, "rules p to q; \"a\" to \"x\" at;", api.ErrSyntax, 27)
	wrong(t, "rules p to q; \"a\" to \"x\" at \"end\";", api.ErrSyntax, 28)
	wrong(t, "rules p to q; \"a\" to \"x\" at end at end;", api.ErrSyntax, 32)
	wrong(t, "rules p to q; \"a\" to \"x\" at end before \"b\";", api.ErrSyntax, 32)
	wrong(t, "rules p to q; \"a\" to \"x\" before \"b\" at end;", api.ErrSyntax, 36)
	wrong(t, "rules p to q; \"a\" to \"x\" before \"b\" before \"b\";", api.ErrSyntax, 36)
	wrong(t, "rules p to q; \"a\" to \"x\" before \"b\" \"n\";", api.ErrSyntax, 36)
	wrong(t, "rules p to q; \"a\" to \"x\"; x", api.ErrSyntax, 26)
	wrong(t, "rules p to q; \"a\" to \"x\";;", api.ErrSyntax, 25)
	wrong(t, "rules p to q; \"a\" to \"x\"; rules p to q; \"a\" to \"x\";", api.ErrSyntax, 26)
	wrong(t, "rules p to q; \"\" to \"x\";", api.ErrArg, 14)
	wrong(t, "rules p to q; \"\"", api.ErrArg, 14)
	wrong(t, "rules p to q; \"a\" to \"x x\"", api.ErrArg, 21)
	wrong(t, "rules p to q; \"a\" to \"x\" before \"\"", api.ErrArg, 32)
	wrong(t, "rules p to q; \"a\" to \"\"; \"a\" to \"\";", api.ErrTwice, 34)
}

// K4: strings that may not be the From, the To or the Next of a rule.
func TestWrongStrings(t *testing.T) {
	for size := range 401 {
		text := strings.Repeat("~", size)
		for _, x := range []struct {
			before, behind string
			least, most    int
			rule           api.Rule
		}{
			{"rules p to q; ", " to \"x\";", 1, 9, api.Rule{From: text, To: "x"}},
			{"rules p to q; \"a\" to ", ";", 0, 9, api.Rule{From: "a", To: text}},
			{"rules p to q; \"a\" to ", " at end;", 0, 9, api.Rule{From: "a", To: text, End: true}},
			{"rules p to q; \"a\" to \"\" before ", ";", 1, 30, api.Rule{From: "a", Next: text}},
		} {
			whole := x.before + "\"" + text + "\"" + x.behind
			if x.least <= size && size <= x.most {
				parsed(t, whole, ruled(x.rule))
			} else {
				wrong(t, whole, api.ErrArg, len(x.before))
				wrong(t, whole[:len(whole)-1]+"x;", api.ErrArg, len(x.before))
				wrong(t, whole[:len(whole)-len(x.behind)], api.ErrArg, len(x.before))
			}
		}
	}
}

// K4: each byte in strings.
func TestBytesOfStrings(t *testing.T) {
	for b := range 256 {
		c := string([]byte{byte(b)})
		for _, text := range []string{c, "a" + c, c + "a", "a" + c + "a"} {
			for _, x := range []struct {
				before, behind string
				rule           api.Rule
			}{
				{"rules p to q; ", " to \"x\";", api.Rule{From: text, To: "x"}},
				{"rules p to q; \"a\" to ", ";", api.Rule{From: "a", To: text}},
				{"rules p to q; \"a\" to \"\" before ", ";", api.Rule{From: "a", Next: text}},
			} {
				whole := x.before + "\"" + text + "\"" + x.behind
				switch {
				case b == '\n':
					wrong(t, whole, api.ErrEnd, len(x.before))
				case b == '"':
					if got, err, _ := Parse(whole); !zero(got) || err == api.OK {
						t.Errorf("%q is parsed as %v, %v", whole, got, err)
					}
				case b <= 32 || b >= 127:
					wrong(t, whole, api.ErrArg, len(x.before))
				default:
					parsed(t, whole, ruled(x.rule))
				}
			}
		}
	}
}

// K4: a rule that was there before, at any two places, and rules that differ.
func TestTwice(t *testing.T) {
	for i := range 80 {
		for j := range i {
			list := numbered(i)
			text := manyRules(i, " # again\n\""+list[j].From+"\"to\""+list[j].To+"\"")
			wrong(t, text+" ;", api.ErrTwice, len(text)+1)
			wrong(t, text+"; x", api.ErrTwice, len(text))
			wrong(t, text+" at;", api.ErrSyntax, len(text)+3)
			wrong(t, text, api.ErrEnd, len(text))
		}
	}
	for _, end := range []string{"", " at end", " before \"b\"", " before \"bn\""} {
		rule := "\"a\" to \"x\"" + end
		text := "rules p to q; " + rule + "; " + rule
		wrong(t, text+";", api.ErrTwice, len(text))
		for _, other := range []string{"", " at end", " before \"b\"", " before \"bn\"", " before \"nb\"", " before \"bb\"", " before \"a\""} {
			if other == end {
				continue
			}
			got, err, _ := Parse("rules p to q; " + rule + "; \"a\" to \"x\"" + other + ";")
			if len(got.List) != 2 || err != api.OK {
				t.Errorf("%q and %q: %v, %v", end, other, got, err)
			}
		}
	}
}
