package rules

import (
	"slices"
	"strings"
	"testing"

	"gazetteer/api"
)

// someWords are words of some alphabets, and texts that are no words.
var someWords = []string{"", "a", "b", "ab", "n", "bc", "def", "nab", "x", "xyz", "?", " ", "a b", "a\n", "\xff", strings.Repeat("a", 24), strings.Repeat("a", 25), strings.Repeat("a", 1000)}

// accepted checks that rules are valid for two alphabets, and have a text.
func accepted(t *testing.T, name string, r api.Rules, from, to api.Alphabet) {
	t.Helper()
	if !Valid(r, from, to) {
		t.Errorf("%v: not valid", name)
	}
	if got, err := Writings(r, from, to, from.Letters[0]); err != api.OK {
		t.Errorf("%v: the first letter has %q, %v", name, got, err)
	}
	formedRules(t, name, r)
}

// formedRules checks that rules are formed: they have a text.
func formedRules(t *testing.T, name string, r api.Rules) {
	t.Helper()
	text, err := Text(r)
	if text == "" || err != api.OK {
		t.Errorf("%v: the text %q, %v", name, text, err)
		return
	}
	if got, err, at := Parse(text); !same(got, r) || err != api.OK || at != 0 {
		t.Errorf("%v: its text is parsed as %v, %v, %v", name, got, err, at)
	}
}

// unfit checks that rules are not valid for two alphabets.
func unfit(t *testing.T, name string, r api.Rules, from, to api.Alphabet) {
	t.Helper()
	if Valid(r, from, to) {
		t.Errorf("%v: valid", name)
		return
	}
	for _, word := range someWords {
		if got, err := Writings(r, from, to, word); len(got) != 0 || err != api.ErrArg {
			t.Errorf("%v: %.20q has %q, %v", name, word, got, err)
		}
	}
}

// unformed checks that rules are not formed, so that they are not valid either.
func unformed(t *testing.T, name string, r api.Rules, from, to api.Alphabet) {
	t.Helper()
	if text, err := Text(r); text != "" || err != api.ErrArg {
		t.Errorf("%v: the text %.50q, %v", name, text, err)
	}
	unfit(t, name, r, from, to)
}

// K1, K3: no rule, 1, 80 and 81 rules, and more.
func TestNumbersOfRules(t *testing.T) {
	for _, count := range []int{1, 2, 3, 79, 80} {
		accepted(t, "so many rules", ruled(numbered(count)...), first(), second())
	}
	for _, count := range []int{0, 81, 82, 160, 1560} {
		unformed(t, "so many rules", ruled(numbered(count)...), first(), second())
	}
	unformed(t, "the zero value", api.Rules{}, first(), second())
	unformed(t, "the zero value, and no alphabets", api.Rules{}, api.Alphabet{}, api.Alphabet{})
	unformed(t, "81 times no rule", ruled(make([]api.Rule, 81)...), first(), second())
	unformed(t, "1000000 times no rule", ruled(make([]api.Rule, 1000000)...), first(), second())
	unformed(t, "once no rule", ruled(api.Rule{}), first(), second())
	accepted(t, "the example", sample(), first(), second())
}

// K1, K3: equal rules, at any two places.
func TestEqualRules(t *testing.T) {
	for _, count := range []int{2, 3, 5, 80} {
		for i := range count {
			for j := range i {
				list := numbered(count)
				list[i] = list[j]
				if _, err := Text(ruled(list...)); err != api.ErrArg || Valid(ruled(list...), first(), second()) {
					t.Fatalf("%v rules, %v and %v of which are equal: %v", count, j, i, err)
				}
			}
		}
	}
	full := api.Rule{From: "ab", To: "xy", Next: "ab"}
	end := api.Rule{From: "ab", To: "xy", End: true}
	unformed(t, "equal rules with Next", ruled(full, full), first(), second())
	unformed(t, "equal rules with End", ruled(end, api.Rule{From: "b"}, end), first(), second())
	unformed(t, "three equal rules", ruled(end, end, end), first(), second())
}

// K1, K3: rules that differ in one field alone are different.
func TestDifferentRules(t *testing.T) {
	for _, list := range [][]api.Rule{
		{{From: "a", To: "x"}, {From: "b", To: "x"}},
		{{From: "a", To: "x"}, {From: "aa", To: "x"}},
		{{From: "a", To: "x"}, {From: "a", To: "y"}},
		{{From: "a", To: "x"}, {From: "a"}},
		{{From: "a", To: "x"}, {From: "a", To: "x", Next: "a"}},
		{{From: "a", To: "x", Next: "a"}, {From: "a", To: "x", Next: "b"}},
		{{From: "a", To: "x", Next: "ab"}, {From: "a", To: "x", Next: "ba"}},
		{{From: "a", To: "x", Next: "a"}, {From: "a", To: "x", Next: "aa"}},
		{{From: "a", To: "x"}, {From: "a", To: "x", End: true}},
		{{From: "a", To: "x", Next: "a"}, {From: "a", To: "x", End: true}},
		{{From: "ab", To: "x"}, {From: "a", To: "x", Next: "b"}},
	} {
		accepted(t, "different rules", ruled(list...), first(), second())
		slices.Reverse(list)
		accepted(t, "different rules, backwards", ruled(list...), first(), second())
	}
}

// threes returns alphabets named p and q of letters of three bytes.
func threes() (from, to api.Alphabet) {
	return script("p", "abc", "!!~", "~##"), script("q", "xyz", "~!!", "##~")
}

// K1, K3: numbers of bytes of From, To and Next at and beyond their limits. A text
// of a whole number of letters of three bytes is valid too.
func TestNumbersOfBytes(t *testing.T) {
	from, to := threes()
	cut := func(letter string, size int) string { return strings.Repeat(letter, size/3+1)[:size] }
	for _, x := range []struct {
		name        string
		least, most int
		rule        func(size int) api.Rule
	}{
		{"From", 1, 9, func(size int) api.Rule { return api.Rule{From: cut("abc", size)} }},
		{"To", 0, 9, func(size int) api.Rule { return api.Rule{From: "abc", To: cut("xyz", size)} }},
		{"Next", 0, 30, func(size int) api.Rule { return api.Rule{From: "abc", Next: cut("!!~", size)} }},
	} {
		for _, size := range []int{0, 1, 2, 3, 4, 5, 6, 7, 8, 9, 10, 11, 12, 27, 28, 29, 30, 31, 32, 33, 100, 400, 401, 1000000} {
			for _, r := range []api.Rules{
				ruled(x.rule(size)),
				ruled(x.rule(size), api.Rule{From: "~##"}),
				ruled(api.Rule{From: "~##"}, x.rule(size)),
			} {
				switch {
				case size < x.least || size > x.most:
					unformed(t, x.name, r, from, to)
				case size%3 == 0:
					accepted(t, x.name, r, from, to)
				default:
					formedRules(t, x.name, r)
					unfit(t, x.name, r, from, to)
				}
			}
		}
	}
}

// K1, K3, K4: each byte, alone and at each place of From, To and Next.
func TestBytes(t *testing.T) {
	count := 0
	for b := range 256 {
		right := 33 <= b && b <= 126 && b != 34
		c := string([]byte{byte(b)})
		letters := slices.Compact(slices.Sorted(slices.Values([]string{"0", c, "1"})))
		for _, text := range []string{c, c + "0", "0" + c, c + "01", "0" + c + "1", "01" + c, c + c + c} {
			for _, r := range []api.Rules{
				ruled(api.Rule{From: text}),
				ruled(api.Rule{From: "0", To: text}),
				ruled(api.Rule{From: "0", Next: text}),
			} {
				if right {
					accepted(t, "a byte", r, script("p", letters...), script("q", letters...))
					count++
				} else {
					unformed(t, "a wrong byte", r, script("p", letters...), script("q", letters...))
					unformed(t, "a wrong byte, and other alphabets", r, script("p", "0", "1"), script("q", "0", "1"))
				}
			}
		}
	}
	if count != 93*7*3 {
		t.Errorf("%v rules", count)
	}
}

// K1: numbers of letters of From, To and Next at and beyond their limits, of letters
// of one, two and three bytes.
func TestNumbersOfLetters(t *testing.T) {
	from, to := sized("p"), sized("q")
	for _, letter := range from.Letters {
		for count := range 31 {
			text := strings.Repeat(letter, count)
			for _, x := range []struct {
				name        string
				least, most int
				bytes       int
				rule        api.Rule
			}{
				{"From", 1, 3, 9, api.Rule{From: text}},
				{"From with Next", 1, 3, 9, api.Rule{From: text, Next: letter}},
				{"From with End", 1, 3, 9, api.Rule{From: text, End: true}},
				{"To", 0, 3, 9, api.Rule{From: letter, To: text}},
				{"Next", 0, 10, 30, api.Rule{From: letter, Next: text}},
			} {
				r := ruled(api.Rule{From: "adef", To: "bca"}, x.rule, api.Rule{From: "bc", Next: "abcdef"})
				switch {
				case count < x.least || len(text) > x.bytes:
					unformed(t, x.name, r, from, to)
				case count <= x.most:
					accepted(t, x.name, r, from, to)
				default:
					formedRules(t, x.name, r)
					unfit(t, x.name, r, from, to)
				}
			}
		}
	}
}

// K1: From, To and Next of no letters, or of those of the other alphabet, or of
// letters that are not whole.
func TestWrongLetters(t *testing.T) {
	from, to := sized("p"), script("q", "a", "xy", "z", "x~")
	for _, text := range []string{"b", "c", "d", "de", "ef", "ab", "ac", "bcb", "bcc", "defd", "defde", "bca?", "A", "xy", "z", "x", "az", "adeg"} {
		for _, rule := range []api.Rule{{From: text}, {From: text, End: true}, {From: "a", Next: text}, {From: "a", Next: "bcdef" + text}} {
			formedRules(t, "a text of no letters", ruled(rule))
			unfit(t, "a text of no letters of p", ruled(rule), from, to)
			unfit(t, "a text of no letters of p, last", ruled(api.Rule{From: "a", To: "z"}, rule), from, to)
			unfit(t, "a text of no letters of p, first", ruled(rule, api.Rule{From: "bc", To: "z"}), from, to)
		}
	}
	for _, text := range []string{"b", "bc", "def", "x", "y", "ax", "xyx", "zxyx", "x!", "X", "ab"} {
		rule := api.Rule{From: "a", To: text}
		formedRules(t, "a text of no letters", ruled(rule))
		unfit(t, "a text of no letters of q", ruled(rule), from, to)
		unfit(t, "a text of no letters of q, last", ruled(api.Rule{From: "a", To: "z"}, rule), from, to)
		unfit(t, "a text of no letters of q, first", ruled(rule, api.Rule{From: "bc", To: "z"}), from, to)
	}
	for _, text := range []string{"a", "xy", "z", "x~", "xyz", "x~xyx~", "axya"} {
		accepted(t, "a text of letters of q", ruled(api.Rule{From: "def", To: text}), from, to)
	}
	for _, text := range []string{"a", "bc", "def", "abcdef", "aa", "defdefdef"} {
		accepted(t, "a text of letters of p", ruled(api.Rule{From: text, To: "z", Next: text}), from, to)
	}
}

// K1, K3: Next together with End, at each place.
func TestNextWithEnd(t *testing.T) {
	for i := range 80 {
		list := numbered(80)
		list[i].Next = "ab"
		accepted(t, "Next", ruled(list...), first(), second())
		list[i].End = true
		unformed(t, "Next with End", ruled(list...), first(), second())
		list[i].Next = ""
		accepted(t, "End", ruled(list...), first(), second())
	}
}

// K1, K3: names that are identifiers.
func TestNames(t *testing.T) {
	for _, name := range []string{"p", "Z", "a1", "a_", "aZ_09__", "rules", "to", "before", "at", "end", strings.Repeat("n", 23), strings.Repeat("n", 24)} {
		from, to := first(), second()
		from.Name, to.Name = name, name
		accepted(t, "From is "+name, api.Rules{From: name, To: "q", List: sample().List}, from, second())
		accepted(t, "To is "+name, api.Rules{From: "p", To: name, List: sample().List}, first(), to)
		accepted(t, "From and To are "+name, api.Rules{From: name, To: name, List: sample().List}, from, to)
	}
}

// K1, K3: names that are no identifiers, also if the alphabets have them.
func TestWrongNames(t *testing.T) {
	for _, name := range []string{
		"", " ", "_", "_a", "1", "1a", "7", "a b", "a a", " a", "a ", "\ta", "a\t", "\na", "a\n", "#", "#a", "a#", "a#b", "#\na",
		"\"a\"", "\"\"", "\"a", "a\"", ";", "a;", ";a", "a-b", "a.b", "-", "<=", "!", "a!", "\x00", "a\x00", "\u00e4", "a\x80", "\xff", "a\r",
		"p ", " p", "p;", "p#", "p\n", strings.Repeat("n", 25), strings.Repeat("n", 24) + " ", strings.Repeat("n", 20000), strings.Repeat("n", 20001),
		"a" + strings.Repeat(" ", 20000), strings.Repeat("a ", 5001), strings.Repeat("a;", 1000000),
	} {
		from, to := first(), second()
		from.Name, to.Name = name, name
		short := name[:min(len(name), 30)]
		for _, x := range []struct{ from, to string }{{name, "q"}, {"p", name}, {name, name}} {
			r := api.Rules{From: x.from, To: x.to, List: sample().List}
			unformed(t, "a wrong name "+short, r, first(), second())
			unformed(t, "a wrong name of an alphabet too "+short, r, from, second())
			unformed(t, "a wrong name of an alphabet too "+short, r, first(), to)
			unformed(t, "wrong names of both alphabets too "+short, r, from, to)
		}
	}
}

// K1: names that are not those of the alphabets.
func TestOtherNames(t *testing.T) {
	for _, x := range []struct{ from, to string }{{"q", "p"}, {"p", "p"}, {"q", "q"}, {"P", "q"}, {"p", "Q"}, {"pp", "q"}, {"p", "qq"}, {"r", "q"}, {"p", "r"}, {"r", "r"}} {
		r := api.Rules{From: x.from, To: x.to, List: sample().List}
		formedRules(t, "other names", r)
		unfit(t, "other names", r, first(), second())
		from, to := first(), second()
		from.Name, to.Name = x.from, x.to
		accepted(t, "the names of the alphabets", r, from, to)
		unfit(t, "other names of the alphabets", sample(), from, to)
	}
	unfit(t, "the alphabets exchanged", sample(), second(), first())
	unfit(t, "the first alphabet twice", sample(), first(), first())
	unfit(t, "the second alphabet twice", sample(), second(), second())
	from, to := first(), second()
	from.Name, to.Name = "q", "p"
	unfit(t, "the names exchanged", sample(), from, to)
	unfit(t, "the names and the alphabets exchanged", sample(), to, from)
}

// wrongAlphabets returns alphabets that are not valid.
func wrongAlphabets(name string) []api.Alphabet {
	var many []string
	for _, text := range textsOf(2, 2, "abcdefghi")[:65] {
		many = append(many, "!"+text)
	}
	return []api.Alphabet{
		{}, {Name: name}, script(name), script(name, many...), script(name, "a", "b", "n", "x", "y", "z", ""), script(name, "a", "b", "n", "x", "y", "z", "abcd"),
		script(name, "a", "b", "n", "x", "y", "z", " "), script(name, "a", "b", "n", "x", "y", "z", "\""), script(name, "a", "b", "n", "x", "y", "z", "\x7f"),
		script(name, "a", "b", "n", "x", "y", "z", "a"), script(name, "a", "b", "n", "x", "y", "z", "ab"), script(name, "a", "b", "n", "x", "y", "z", "xyz"),
		{Name: name, Letters: []string{"a", "b", "n", "x", "y", "z"}, Small: []int{0, 1, 2, 3, 4}},
		{Name: name, Letters: []string{"a", "b", "n", "x", "y", "z"}, Small: []int{0, 1, 2, 3, 4, 6}},
		{Name: name, Letters: []string{"a", "b", "n", "x", "y", "z"}, Small: []int{1, 0, 2, 3, 4, 5}},
		{Name: name, Letters: []string{"a", "b", "n", "x", "y", "z"}},
	}
}

// K1, K2: alphabets that are not valid, also where no rule has a letter of them.
func TestWrongAlphabets(t *testing.T) {
	whole := script("", "a", "b", "n", "x", "y", "z")
	silent := ruled(api.Rule{From: "a"}, api.Rule{From: "b", Next: "n"}, api.Rule{From: "n", End: true})
	for _, r := range []api.Rules{sample(), silent, ruled(api.Rule{From: "a"}), ruled(numbered(80)...)} {
		from, to := whole, whole
		from.Name, to.Name = "p", "q"
		accepted(t, "all letters", r, from, to)
		for _, wrong := range wrongAlphabets("p") {
			unfit(t, "a wrong first alphabet", r, wrong, to)
			unfit(t, "a wrong first alphabet, and a right second one", r, wrong, second())
		}
		for _, wrong := range wrongAlphabets("q") {
			unfit(t, "a wrong second alphabet", r, from, wrong)
			unfit(t, "a right first alphabet, and a wrong second one", r, first(), wrong)
		}
		unfit(t, "no alphabets", r, api.Alphabet{}, api.Alphabet{})
	}
}

// K1: rules between alphabets with letters that begin with others, and small
// letters, which make no difference.
func TestOtherAlphabets(t *testing.T) {
	from, to := nested("p"), nested("q")
	for _, rule := range []api.Rule{
		{From: "n^", To: "n^^"}, {From: "n^^n^n", To: "nn^n^^"}, {From: "nnn", To: "", Next: "n^nn^^n"}, {From: "an^b", To: "n^^n^^n^^", End: true},
	} {
		accepted(t, "nested letters", ruled(rule), from, to)
	}
	for _, rule := range []api.Rule{
		{From: "^"}, {From: "n^^^"}, {From: "n^^n^nn"}, {From: "nnnn"}, {From: "a", To: "n^^n^nn"}, {From: "a", To: "^"}, {From: "a", Next: "n^^^"}, {From: "a", Next: "nnnnnnnnnnn^"},
	} {
		formedRules(t, "no nested letters", ruled(rule))
		unfit(t, "no nested letters", ruled(rule), from, to)
	}
	accepted(t, "ten nested letters", ruled(api.Rule{From: "a", Next: "nnnnnnnnnn^"}), from, to)
	small := api.Alphabet{Name: "p", Letters: []string{"A", "a", "b", "B"}, Small: []int{1, 1, 2, 2}}
	accepted(t, "great letters", ruled(api.Rule{From: "A", To: "Aa", Next: "Bb"}), small, api.Alphabet{Name: "q", Letters: small.Letters, Small: small.Small})
	unfit(t, "a great letter that is none", ruled(api.Rule{From: "A"}, api.Rule{From: "C"}), small, second())
}
