package rules

import (
	"math/rand"
	"regexp"
	"slices"
	"sort"
	"strings"
	"testing"

	"gazetteer/alphabet"
	"gazetteer/api"
	"gazetteer/lexer"
)

// The chapter's words written down once more, as directly as possible. Nothing here
// is taken from the code under test. Of the layers below it, alphabet.Valid says
// which alphabets are valid, and lexer.Lex which errors a text has for itself.

var (
	specName = regexp.MustCompile(`^[A-Za-z][A-Za-z0-9_]{0,23}$`)
	specFrom = regexp.MustCompile(`^[!#-~]{1,9}$`)
	specTo   = regexp.MustCompile(`^[!#-~]{0,9}$`)
	specNext = regexp.MustCompile(`^[!#-~]{0,30}$`)
)

// specFormed is what the chapter says of formed rules.
func specFormed(r api.Rules) bool {
	if !specName.MatchString(r.From) || !specName.MatchString(r.To) || len(r.List) < 1 || len(r.List) > 80 {
		return false
	}
	seen := map[api.Rule]bool{}
	for _, rule := range r.List {
		if !specFrom.MatchString(rule.From) || !specTo.MatchString(rule.To) || !specNext.MatchString(rule.Next) || rule.Next != "" && rule.End {
			return false
		}
		seen[rule] = true
	}
	return len(seen) == len(r.List)
}

// specLetters returns the letters of a text, if it consists of letters. In a valid
// alphabet there is one way to find them at most. No text of letters is longer than
// 72 bytes here.
func specLetters(a api.Alphabet, text string) ([]string, bool) {
	if text == "" || len(text) > 72 {
		return nil, text == ""
	}
	for _, letter := range a.Letters {
		if rest, is := strings.CutPrefix(text, letter); is {
			if more, whole := specLetters(a, rest); whole {
				return append([]string{letter}, more...), true
			}
		}
	}
	return nil, false
}

// specValid is what the chapter says of valid rules.
func specValid(r api.Rules, from, to api.Alphabet) bool {
	if !specFormed(r) || !alphabet.Valid(from) || !alphabet.Valid(to) || r.From != from.Name || r.To != to.Name {
		return false
	}
	for _, rule := range r.List {
		f, is1 := specLetters(from, rule.From)
		t, is2 := specLetters(to, rule.To)
		n, is3 := specLetters(from, rule.Next)
		if !is1 || !is2 || !is3 || len(f) < 1 || len(f) > 3 || len(t) > 3 || len(n) > 10 {
			return false
		}
	}
	return true
}

// stands reports whether a rule may stand in a word so that it ends behind some
// letters of it.
func stands(rule api.Rule, from api.Alphabet, word []string, end int) bool {
	next, _ := specLetters(from, rule.Next)
	switch {
	case rule.End:
		return end == len(word)
	case len(next) > 0:
		return end < len(word) && slices.Contains(next, word[end])
	}
	return true
}

// byLists returns the results of all writings of some first letters of a word. It
// tries all lists of rules, at most as many as these letters are.
func byLists(r api.Rules, from api.Alphabet, word []string, count int) map[string]bool {
	found := map[string]bool{}
	first := strings.Join(word[:count], "")
	var try func(read, result string, letters, rules int)
	try = func(read, result string, letters, rules int) {
		if read == first && letters == count {
			found[result] = true
		}
		for _, rule := range r.List {
			more, _ := specLetters(from, rule.From)
			if end := letters + len(more); rules < count && end <= count && stands(rule, from, word, end) {
				try(read+rule.From, result+rule.To, end, rules+1)
			}
		}
	}
	try("", "", 0, 0)
	return found
}

// byLast returns the results of all writings of as many first letters of a word as
// it has, and of fewer ones: what the last rule adds to those of the letters before
// it. It stops where there are more than 200.
func byLast(r api.Rules, from api.Alphabet, word []string) []map[string]bool {
	all := []map[string]bool{{"": true}}
	for end := 1; end <= len(word) && len(all[end-1]) <= 200; end++ {
		found := map[string]bool{}
		for _, rule := range r.List {
			more, _ := specLetters(from, rule.From)
			begin := end - len(more)
			if begin < 0 || !slices.Equal(word[begin:end], more) || !stands(rule, from, word, end) {
				continue
			}
			for before := range all[begin] {
				found[before+rule.To] = true
			}
		}
		all = append(all, found)
	}
	return all
}

// sorted returns the texts of a set in increasing order.
func sorted(set map[string]bool) []string {
	list := []string{}
	for text := range set {
		list = append(list, text)
	}
	sort.Strings(list)
	return list
}

// specWritings is what K2 says of Writings.
func specWritings(r api.Rules, from, to api.Alphabet, word string) ([]string, api.Errno) {
	letters, whole := specLetters(from, word)
	if !specValid(r, from, to) || !whole || len(letters) < 1 || len(letters) > 24 {
		return nil, api.ErrArg
	}
	all := byLast(r, from, letters)
	for _, found := range all {
		if len(found) > 200 {
			return nil, api.ErrLimit
		}
	}
	return sorted(all[len(letters)]), api.OK
}

// specText is what the chapter says of the text of rules.
func specText(r api.Rules) (string, api.Errno) {
	if !specFormed(r) {
		return "", api.ErrArg
	}
	text := "rules " + r.From + " to " + r.To + ";\n"
	for _, x := range r.List {
		text += `"` + x.From + `" to "` + x.To + `"`
		if x.Next != "" {
			text += ` before "` + x.Next + `"`
		}
		if x.End {
			text += ` at end`
		}
		text += ";\n"
	}
	return text, api.OK
}

var (
	specGaps   = regexp.MustCompile(`^(?:[ \t\n]|#[^\n]*)*`)
	specTokens = regexp.MustCompile(`^(?:([A-Za-z][A-Za-z0-9_]*)|([0-9]+)|"([^"\n]*)"|[!<>]=|[;,.:()\[\]{}=<>+-])`)
	// The language, with one byte for each token: the words that it has are R, t, b,
	// a and e, other names n, strings s, and other tokens x.
	specWhole = regexp.MustCompile(`^R[Rtbaen]t[Rtbaen];(?:sts(?:bs|ae)?;)+$`)
	specBegin = regexp.MustCompile(`^(?:R(?:[Rtbaen](?:t(?:[Rtbaen](?:;(?:sts(?:bs|ae)?;)*(?:s(?:t(?:s(?:bs?|ae?)?)?)?)?)?)?)?)?)?$`)
)

// specToken is a token: its byte, its text, and its offset.
type specToken struct {
	what byte
	text string
	at   int
}

// specLex returns the tokens of a text in which the lexer finds no error.
func specLex(text string) []specToken {
	var list []specToken
	words := map[string]byte{"rules": 'R', "to": 't', "before": 'b', "at": 'a', "end": 'e'}
	at := len(specGaps.FindString(text))
	for at < len(text) {
		found := specTokens.FindStringSubmatch(text[at:])
		t := specToken{'x', found[0], at}
		switch {
		case found[1] != "" && words[found[1]] != 0:
			t.what = words[found[1]]
		case found[1] != "":
			t.what = 'n'
		case found[0][0] == '"':
			t.what, t.text = 's', found[3]
		case found[0] == ";":
			t.what = ';'
		}
		list = append(list, t)
		at += len(found[0])
		at += len(specGaps.FindString(text[at:]))
	}
	return list
}

// specParse is what K4 says of Parse.
func specParse(text string) (api.Rules, api.Errno, int) {
	if _, err, at := lexer.Lex(text); err != api.OK {
		return api.Rules{}, err, at
	}
	var r api.Rules
	var rule api.Rule
	what := ""
	for i, t := range specLex(text) {
		what += string([]byte{t.what})
		role := what[strings.LastIndex(what[:i], ";")+1:] // of the token in its rule
		in := strings.Contains(what[:i], ";")
		limits := map[string]*regexp.Regexp{"s": specFrom, "sts": specTo, "stsbs": specNext}
		places := map[string]*string{"s": &rule.From, "sts": &rule.To, "stsbs": &rule.Next}
		switch {
		case !specBegin.MatchString(what):
			return api.Rules{}, api.ErrSyntax, t.at
		case !in && i == 1:
			r.From = t.text
		case !in && i == 3:
			r.To = t.text
		case in && role == "s" && len(r.List) > 79:
			return api.Rules{}, api.ErrLimit, t.at
		case in && limits[role] != nil && (!limits[role].MatchString(t.text) || role == "stsbs" && t.text == ""):
			return api.Rules{}, api.ErrArg, t.at
		case in && limits[role] != nil:
			*places[role] = t.text
		case in && t.what == ';':
			rule.End = strings.HasSuffix(what, "ae;")
			if slices.Contains(r.List, rule) {
				return api.Rules{}, api.ErrTwice, t.at
			}
			r.List, rule = append(r.List, rule), api.Rule{}
		}
	}
	if !specWhole.MatchString(what) {
		return api.Rules{}, api.ErrEnd, len(text)
	}
	return r, api.OK, 0
}

// compareValid compares what is said of rules with the chapter.
func compareValid(t *testing.T, r api.Rules, from, to api.Alphabet) bool {
	t.Helper()
	want := specValid(r, from, to)
	if got := Valid(r, from, to); got != want {
		t.Fatalf("%v for %v and %v: %v", r, from.Letters, to.Letters, got)
	}
	return want
}

// compareWord compares what is said of a word with the chapter.
func compareWord(t *testing.T, r api.Rules, from, to api.Alphabet, word string) ([]string, api.Errno) {
	t.Helper()
	got, err := Writings(r, from, to, word)
	want, wantErr := specWritings(r, from, to, word)
	if !slices.Equal(got, want) || err != wantErr {
		t.Fatalf("%v: %q has %q, %v, not %q, %v", r, word, got, err, want, wantErr)
	}
	return want, wantErr
}

// compareText compares the text of rules with the chapter.
func compareText(t *testing.T, r api.Rules) string {
	t.Helper()
	got, err := Text(r)
	want, wantErr := specText(r)
	if got != want || err != wantErr {
		t.Fatalf("%v: %q, %v", r, got, err)
	}
	return got
}

// compareParse compares what is parsed with the chapter.
func compareParse(t *testing.T, text string) api.Errno {
	t.Helper()
	got, err, at := Parse(text)
	want, wantErr, wantAt := specParse(text)
	if !same(got, want) || err != wantErr || at != wantAt {
		t.Fatalf("%q is parsed as %v, %v, %v, not %v, %v, %v", text, got, err, at, want, wantErr, wantAt)
	}
	return wantErr
}

// The results by all lists of rules are those by the last rule, for each number of
// letters.
func TestWaysOfTheChapter(t *testing.T) {
	total := 0
	random(20, 400, func(row *rand.Rand, r api.Rules, from, to api.Alphabet, word string) {
		r.List = r.List[:min(len(r.List), 5)]
		letters, _ := specLetters(from, word)
		letters = letters[:min(len(letters), 5)]
		for count, found := range byLast(r, from, letters) {
			if got := byLists(r, from, letters, count); !slices.Equal(sorted(got), sorted(found)) {
				t.Fatalf("%v: %v of %v has %v and %v", r, count, letters, got, found)
			}
			total += len(found)
		}
	})
	if total < 5000 {
		t.Errorf("only %v results", total)
	}
}

// All lists of one and two, and many of three of the rules of two letters with each
// context, and all words of up to three letters.
func TestAllRules(t *testing.T) {
	from, to := script("p", "a", "b"), script("q", "x", "y")
	var rules []api.Rule
	for _, text := range []string{"a", "b", "ab"} {
		for _, result := range []string{"", "x", "y"} {
			for _, next := range []string{"", "a", "b", "ab"} {
				rules = append(rules, api.Rule{From: text, To: result, Next: next})
			}
			rules = append(rules, api.Rule{From: text, To: result, End: true})
		}
	}
	words := append(wordsOf(1, 3, from), "aaab", "baab", "abab", "aaba")
	count, lists := map[int]int{}, map[int]int{}
	subsets(rules, 3, func(list []api.Rule) {
		lists[len(list)]++
		if len(list) == 3 && lists[3]%7 > 0 {
			return
		}
		for _, word := range words {
			got, err := compareWord(t, ruled(list...), from, to, word)
			if err != api.OK {
				t.Fatalf("%v: %v", list, err)
			}
			count[len(got)]++
		}
	})
	if lists[1] != 45 || lists[2] != 990 || lists[3] != 14190 || count[0] < 10000 || count[1] < 3000 || count[2] < 1000 || count[3] < 100 {
		t.Errorf("%v lists, %v", lists, count)
	}
}

// Random rules and words, some of which are damaged.
func TestRandomRules(t *testing.T) {
	valid, formed := [2]int{}, [2]int{}
	errs := map[api.Errno]int{}
	index := map[bool]int{true: 1}
	random(21, 600, func(row *rand.Rand, r api.Rules, from, to api.Alphabet, word string) {
		if row.Intn(3) == 0 {
			r = damaged(row, r)
		}
		if row.Intn(10) == 0 {
			at := row.Intn(len(word) + 1)
			word = word[:at] + string([]byte{"ab?^\x80 "[row.Intn(6)]}) + word[at:]
		}
		_, err := compareWord(t, r, from, to, word)
		errs[err]++
		valid[index[compareValid(t, r, from, to)]]++
		text := compareText(t, r)
		formed[index[text != ""]]++
		compareParse(t, text)
	})
	if valid[0] < 300 || valid[1] < 2000 || formed[0] < 150 || formed[1] < 2000 || errs[api.OK] < 1000 || errs[api.ErrLimit] < 200 {
		t.Errorf("%v, %v, %v", valid, formed, errs)
	}
}

// All names of up to three bytes of the different classes, and of each one byte.
func TestAllNames(t *testing.T) {
	try := func(name string) {
		for _, r := range []api.Rules{{From: name, To: "q"}, {From: "p", To: name}, {From: name, To: name}} {
			r.List = []api.Rule{{From: "a"}}
			compareText(t, r)
			compareParse(t, "rules "+r.From+" to "+r.To+"; \"a\" to \"\";")
		}
	}
	for _, name := range textsOf(0, 3, "aZ_7 \t\n#;!=\"\x00\x80\xff-<") {
		try(name)
	}
	for b := range 256 {
		c := string([]byte{byte(b)})
		for _, name := range []string{c, "a" + c, c + "a", "a" + c + "b", strings.Repeat("n", 23) + c, strings.Repeat("n", 24) + c} {
			try(name)
		}
	}
}

// All texts of up to five tokens behind some beginnings. Behind the first error, one
// more token is tried, and then no other one.
func TestAllTexts(t *testing.T) {
	tokens := []string{"rules", "to", "p", "before", "at", "end", "\"a\"", "\"\"", ";", "7"}
	count := map[api.Errno]int{}
	var try func(text string, most int)
	try = func(text string, most int) {
		err := compareParse(t, text)
		count[err]++
		if most == 0 {
			return
		}
		if err != api.OK && err != api.ErrEnd {
			most = 1
		}
		for _, token := range tokens {
			try(text+token+" ", most-1)
		}
	}
	for _, before := range []string{"", "rules p ", "rules p to q", "rules p to q; ", "rules p to q; \"a\" to \"\"; ", "rules p to q; \"a\" to \"\" at end; \"a\" "} {
		try(before, 5)
	}
	if len(count) != 5 || count[api.OK] < 10 || count[api.ErrTwice] < 5 || count[api.ErrArg] < 100 || count[api.ErrEnd] < 150 || count[api.ErrSyntax] < 5000 {
		t.Errorf("%v", count)
	}
}

// Texts of rules that are damaged in one or two places, and their beginnings.
func TestDamagedTexts(t *testing.T) {
	count := map[api.Errno]int{}
	scraps := []string{"", " ", "\n", ";", "\"", "\"\"", "\"a\"", "#", "# x\n", "to", " to ", "rules", "at end", "before", " before \"b\"", "x", "7", "7x", "?", "\x00", "\xff", "-", "aaaaaaaaaaaaaaaaaaaaaaaaa", "\"abcdefghij\""}
	random(22, 100, func(row *rand.Rand, r api.Rules, from, to api.Alphabet, word string) {
		r.List = r.List[:min(len(r.List), 6)]
		text := compareText(t, r)
		lines := strings.SplitAfter(text, "\n")
		for range 20 {
			changed := text + lines[row.Intn(len(lines))]
			if row.Intn(4) > 0 {
				changed = text
			}
			for range 1 + row.Intn(2) {
				at := row.Intn(len(changed) + 1)
				end := min(len(changed), at+row.Intn(4))
				changed = changed[:at] + scraps[row.Intn(len(scraps))] + changed[end:]
			}
			count[compareParse(t, changed)]++
		}
		for range 5 {
			count[compareParse(t, text[:row.Intn(len(text)+1)])]++
		}
	})
	for _, err := range []api.Errno{api.OK, api.ErrSyntax, api.ErrArg, api.ErrTwice, api.ErrEnd, api.ErrChar, api.ErrNumber, api.ErrLimit} {
		if count[err] < 100 {
			t.Errorf("%v", count)
		}
	}
	for size := range len(spacious) + 1 {
		compareParse(t, spacious[:size])
		compareParse(t, spacious[size:])
	}
}

// spacious is the text of the example, with gaps and comments.
const spacious = "# p to q\nrules p to q ;\n\"a\"to\"x\";\"b\" to \"y\" ; # plain\n\"n\" to \"z\";\n\"n\" to \"y\" before \"b\";\n\"ab\" to \"z\";\n\t\"a\" to \"\" at end;\n# end"
