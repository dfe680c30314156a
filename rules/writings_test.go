package rules

import (
	"slices"
	"strings"
	"testing"

	"gazetteer/api"
)

// results checks the results of a word.
func results(t *testing.T, name string, r api.Rules, from, to api.Alphabet, word string, want ...string) {
	t.Helper()
	if got, err := Writings(r, from, to, word); !slices.Equal(got, want) || err != api.OK {
		t.Errorf("%v: %q has %q, %v", name, word, got, err)
	}
}

// failed checks the error of a word.
func failed(t *testing.T, name string, r api.Rules, from, to api.Alphabet, word string, want api.Errno) {
	t.Helper()
	if got, err := Writings(r, from, to, word); len(got) != 0 || err != want {
		t.Errorf("%v: %.60q has %.60q, %v", name, word, got, err)
	}
}

// K2: the chapter's examples, and more words by the same rules.
func TestWritings(t *testing.T) {
	for _, x := range []struct {
		word string
		want []string
	}{
		{"a", []string{"", "x"}},
		{"b", []string{"y"}},
		{"n", []string{"z"}},
		{"ab", []string{"xy", "z"}},
		{"nb", []string{"yy", "zy"}},
		{"na", []string{"z", "zx"}},
		{"aa", []string{"x", "xx"}},
		{"aab", []string{"xxy", "xz"}},
		{"aba", []string{"xy", "xyx", "z", "zx"}},
		{"abab", []string{"xyxy", "xyz", "zxy", "zz"}},
		{"nab", []string{"zxy", "zz"}},
		{"nba", []string{"yy", "yyx", "zy", "zyx"}},
		{"nnb", []string{"zyy", "zzy"}},
		{"nbn", []string{"yyz", "zyz"}},
		{"bbb", []string{"yyy"}},
		{strings.Repeat("n", 24), []string{strings.Repeat("z", 24)}},
		{strings.Repeat("b", 23), []string{strings.Repeat("y", 23)}},
		{strings.Repeat("b", 24), []string{strings.Repeat("y", 24)}},
		{strings.Repeat("b", 23) + "a", []string{strings.Repeat("y", 23), strings.Repeat("y", 23) + "x"}},
	} {
		results(t, "the example", sample(), first(), second(), x.word, x.want...)
	}
}

// K2: texts that are no words.
func TestNoWords(t *testing.T) {
	for _, word := range []string{
		"", "x", "y", "c", "A", "N", "ax", "xa", "a b", " a", "a ", "a\n", "\ta", "a;", "a?b", "\"a\"", "\x00", "a\x00", "\xff", "\u00e4", "a\u00e4",
		strings.Repeat("b", 25), strings.Repeat("b", 26), strings.Repeat("b", 24) + "x", "x" + strings.Repeat("b", 24), strings.Repeat("n", 1000000),
	} {
		failed(t, "no word", sample(), first(), second(), word, api.ErrArg)
	}
	for _, word := range []string{"n^^^", "^", "^n", "n^^^^", "c", strings.Repeat("n^^", 25), strings.Repeat("n", 24) + "n^"} {
		failed(t, "no word of nested letters", ruled(api.Rule{From: "n"}), nested("p"), second(), word, api.ErrArg)
	}
	results(t, "24 letters of three bytes", ruled(api.Rule{From: "n^^", To: "x"}), nested("p"), second(), strings.Repeat("n^^", 24), strings.Repeat("x", 24))
	// Together with rules that are not valid, which has the same error.
	failed(t, "no word, and no rule", ruled(), first(), second(), "?", api.ErrArg)
}

// K2: words with no writing, which are words nevertheless.
func TestNoWriting(t *testing.T) {
	for _, x := range []struct {
		name  string
		rules []api.Rule
		words []string
	}{
		{"no rule for n", []api.Rule{{From: "a", To: "x"}, {From: "b"}}, []string{"n", "an", "na", "anb", "nn", "bbbn"}},
		{"a rule for two letters", []api.Rule{{From: "ab", To: "x"}}, []string{"a", "b", "aba", "bab", "ba", "aab", "abb", "abn"}},
		{"a rule for three letters", []api.Rule{{From: "abn", To: "x"}}, []string{"a", "ab", "abna", "nab", "abnab", "aabn"}},
		{"a letter too many, or too few", []api.Rule{{From: "aa"}, {From: "bbb"}}, []string{"a", "aaa", "bb", "bbbb", "aabb", "abbb"}},
		{"the wrong letter follows", []api.Rule{{From: "a", To: "x", Next: "b"}, {From: "b", Next: "b"}, {From: "n"}}, []string{"a", "an", "aa", "aba", "b", "ban", "bb"}},
		{"it is not the end", []api.Rule{{From: "a", End: true}, {From: "ab", End: true}}, []string{"aa", "aba", "abb", "b", "aab"}},
		{"the only way ends early", []api.Rule{{From: "a"}, {From: "ab"}, {From: "ba", End: true}}, []string{"b", "aabb", "bab", "abb", "baa"}},
	} {
		for _, word := range x.words {
			results(t, x.name, ruled(x.rules...), first(), second(), word)
		}
	}
}

// K2: the empty result, alone and beside others.
func TestEmptyResult(t *testing.T) {
	silent := ruled(api.Rule{From: "a"}, api.Rule{From: "b"}, api.Rule{From: "ab"}, api.Rule{From: "n", To: "x"}, api.Rule{From: "n"})
	for _, word := range []string{"a", "b", "ab", "ba", "abab", strings.Repeat("ab", 12)} {
		results(t, "the empty result", silent, first(), second(), word, "")
	}
	results(t, "the empty result, and another one", silent, first(), second(), "n", "", "x")
	results(t, "the empty result, and another one", silent, first(), second(), "ana", "", "x")
	results(t, "the empty result, and two others", silent, first(), second(), "nn", "", "x", "xx")
}

// K2: several writings with one result.
func TestOneResult(t *testing.T) {
	r := ruled(
		api.Rule{From: "a", To: "x"}, api.Rule{From: "a", To: "x", Next: "a"}, api.Rule{From: "a", To: "x", End: true},
		api.Rule{From: "aa", To: "xx"}, api.Rule{From: "aaa", To: "xxx"}, api.Rule{From: "aa", To: "xxx"}, api.Rule{From: "aaa", To: "xx"},
	)
	results(t, "three writings", r, first(), second(), "a", "x")
	results(t, "many writings", r, first(), second(), "aa", "xx", "xxx")
	results(t, "many writings", r, first(), second(), "aaa", "xx", "xxx", "xxxx")
	plain := ruled(api.Rule{From: "a", To: "x"}, api.Rule{From: "aa", To: "xx"}, api.Rule{From: "aaa", To: "xxx"})
	results(t, "2^23 writings, nearly", plain, first(), second(), strings.Repeat("a", 24), strings.Repeat("x", 24))
	other := ruled(api.Rule{From: "a", To: "x"}, api.Rule{From: "b", To: "yz"}, api.Rule{From: "a", To: "xy"}, api.Rule{From: "b", To: "z"})
	results(t, "two writings of one result", other, first(), second(), "ab", "xyyz", "xyz", "xz")
}

// K2: the order of results is that of their bytes.
func TestOrder(t *testing.T) {
	to := script("q", "!", "#", "0", "A", "Z", "a", "z", "~", "a@", "a^")
	r := ruled()
	for i := len(to.Letters) - 1; i >= 0; i-- {
		r.List = append(r.List, api.Rule{From: "a", To: to.Letters[i]})
	}
	r.List = append(r.List, api.Rule{From: "a"}, api.Rule{From: "a", To: "aa"}, api.Rule{From: "a", To: "a0"})
	results(t, "all bytes", r, first(), to, "a", "", "!", "#", "0", "A", "Z", "a", "a0", "a@", "a^", "aa", "z", "~")
}

// K2: rules with Next, at the last letter of a word and before it.
func TestNext(t *testing.T) {
	r := ruled(api.Rule{From: "a", To: "x", Next: "b"}, api.Rule{From: "a", To: "y"}, api.Rule{From: "b", To: "z", Next: "na"}, api.Rule{From: "ab", To: "", Next: "n"}, api.Rule{From: "n"}, api.Rule{From: "b", To: "y"})
	results(t, "the last letter", r, first(), second(), "a", "y")
	results(t, "the last letter", r, first(), second(), "b", "y")
	results(t, "the last letters", r, first(), second(), "ab", "xy", "yy")
	results(t, "before the last letter", r, first(), second(), "abn", "", "xy", "xz", "yy", "yz")
	results(t, "before another letter", r, first(), second(), "an", "y")
	results(t, "before the second letter of Next", r, first(), second(), "ba", "yy", "zy")
	results(t, "before the first letter of Next", r, first(), second(), "bn", "y", "z")
	results(t, "before a letter that is not in Next", r, first(), second(), "bb", "yy")
	results(t, "twice", r, first(), second(), "bbn", "yy", "yz")
	wide := ruled(api.Rule{From: "n", To: "x", Next: "n^a"}, api.Rule{From: "n^", To: "y", Next: "n"}, api.Rule{From: "a"}, api.Rule{From: "n^^", To: "z", Next: "n^^"}, api.Rule{From: "n", End: true}, api.Rule{From: "n^", End: true}, api.Rule{From: "n^^", End: true})
	results(t, "a whole letter", wide, nested("p"), second(), "nn^", "x")
	results(t, "the beginning of a letter", wide, nested("p"), second(), "nn")
	results(t, "a letter that begins like it", wide, nested("p"), second(), "nn^^")
	results(t, "another letter of Next", wide, nested("p"), second(), "na", "x")
	results(t, "a shorter letter", wide, nested("p"), second(), "n^n", "y")
	results(t, "a longer letter", wide, nested("p"), second(), "n^n^")
	results(t, "the same letter", wide, nested("p"), second(), "n^^n^^", "z")
	results(t, "a part of it", wide, nested("p"), second(), "n^^n^")
	results(t, "one after the other", wide, nested("p"), second(), "n^nn^", "yx")
}

// K2: rules with End, at the last letter of a word and before it.
func TestEnd(t *testing.T) {
	r := ruled(api.Rule{From: "a", To: "x", End: true}, api.Rule{From: "a", To: "y"}, api.Rule{From: "b", To: "z"}, api.Rule{From: "ab", To: "x", End: true}, api.Rule{From: "n", To: "z", End: true})
	results(t, "the only letter", r, first(), second(), "a", "x", "y")
	results(t, "the last letter", r, first(), second(), "ba", "zx", "zy")
	results(t, "the letter before", r, first(), second(), "ab", "x", "yz")
	results(t, "at the end, and before", r, first(), second(), "aa", "yx", "yy")
	results(t, "two letters that are not the last ones", r, first(), second(), "aba", "yzx", "yzy")
	results(t, "two letters that are the last ones", r, first(), second(), "abab", "yzx", "yzyz")
	results(t, "at the end alone", r, first(), second(), "bn", "zz")
	results(t, "not at the end", r, first(), second(), "nb")
}

// K2: a From is not found across letters.
func TestWholeLetters(t *testing.T) {
	r := ruled(api.Rule{From: "n", To: "x"}, api.Rule{From: "n^n", To: "y"}, api.Rule{From: "a", To: "z"})
	results(t, "nested letters", r, nested("p"), second(), "n", "x")
	results(t, "nested letters", r, nested("p"), second(), "n^")
	results(t, "nested letters", r, nested("p"), second(), "n^^")
	results(t, "nested letters", r, nested("p"), second(), "nn^n", "xy")
	results(t, "nested letters", r, nested("p"), second(), "n^nn", "yx")
	results(t, "nested letters", r, nested("p"), second(), "n^n^")
	results(t, "nested letters", r, nested("p"), second(), "n^na", "yz")
	from := script("p", "ab", "a", "c", "abd")
	r = ruled(api.Rule{From: "a", To: "x"}, api.Rule{From: "ab", To: "y"}, api.Rule{From: "aab", To: "z"}, api.Rule{From: "c"})
	results(t, "ab is one letter", r, from, second(), "ab", "y")
	results(t, "a, and ab", r, from, second(), "aab", "xy", "z")
	results(t, "a, and abd", r, from, second(), "aabd")
	results(t, "ab, and c", r, from, second(), "abc", "y")
	folding := api.Alphabet{Name: "p", Letters: []string{"A", "a"}, Small: []int{1, 1}}
	r = ruled(api.Rule{From: "a", To: "x"}, api.Rule{From: "aA", To: "y"})
	results(t, "words are not folded", r, folding, second(), "aA", "y")
	results(t, "words are not folded", r, folding, second(), "A")
	results(t, "words are not folded", r, folding, second(), "aa", "xx")
}

// many returns an alphabet with so many letters of one byte, from A on.
func many(name string, count int) api.Alphabet {
	var letters []string
	for i := range count {
		letters = append(letters, string([]byte{byte('A' + i)}))
	}
	return script(name, letters...)
}

// fan returns so many rules from a text to one letter each, and behind it a text.
func fan(from, behind string, count int) []api.Rule {
	var list []api.Rule
	for _, letter := range many("q", count).Letters {
		list = append(list, api.Rule{From: from, To: letter + behind})
	}
	return list
}

// K2: numbers of different results for some numbers of letters, at and beyond the
// limit. The letters a and b have 20 and 9, which make 180 together.
func TestLimit(t *testing.T) {
	from, to := script("p", "a", "b", "c", "n"), many("q", 60)
	for further := 15; further <= 25; further++ {
		list := slices.Concat(fan("a", "", 20), fan("b", "", 9), fan("ab", "]]", further), []api.Rule{{From: "c"}})
		err, count := api.OK, 180+further
		if count > 200 {
			err, count = api.ErrLimit, 0
		}
		for _, word := range []string{"ab", "abc", "abccc", "cab", "cabc", "ccabcc", strings.Repeat("c", 22) + "ab", "ab" + strings.Repeat("c", 22)} {
			if got, e := Writings(ruled(list...), from, to, word); len(got) != count || e != err {
				t.Errorf("%v: %v results, %v", word, len(got), e)
			}
		}
		// The letter n has no rule, so that there are no results, or there is the error.
		for _, word := range []string{"abn", "cabn", "abcn", "abccnab", "abnab", "abnnn"} {
			if got, e := Writings(ruled(list...), from, to, word); len(got) != 0 || e != err {
				t.Errorf("%v: %v results, %v", word, len(got), e)
			}
		}
		results(t, "n is first, and has no rule", ruled(list...), from, to, "nab")
		results(t, "n comes after b, and has no rule", ruled(list...), from, to, "bnab")
		results(t, "n comes after a, and has no rule", ruled(list...), from, to, "canabab")
	}
}

// K2: it makes no difference to the limit by which writings there are so many
// results, nor whether all of the word has them.
func TestWaysToLimit(t *testing.T) {
	from, to := script("p", "a", "b", "c", "n"), many("q", 60)
	base := slices.Concat(fan("a", "", 20), fan("b", "", 10), []api.Rule{{From: "c"}})
	for _, x := range []struct {
		name    string
		further []api.Rule
		words   []string
		count   int
	}{
		{"200 results", nil, []string{"ab", "ba", "abc", "cab", "acb"}, 200},
		{"the same results again", fan("ab", "A", 20), []string{"ab", "cab", "abc"}, 200},
		{"the same results by other contexts", []api.Rule{{From: "a", To: "A", Next: "b"}, {From: "b", To: "A", End: true}, {From: "b", To: "B", Next: "abc"}}, []string{"ab", "abc", "cab"}, 200},
		{"one more", []api.Rule{{From: "ab", To: "]]"}}, []string{"ab", "abc", "cab", "abn"}, -1},
		{"one more, which is empty", []api.Rule{{From: "ab"}}, []string{"ab", "abc", "cab", "abn"}, -1},
		{"one more, elsewhere", []api.Rule{{From: "ab", To: "]]"}}, []string{"ba", "acb", "bca"}, 200},
		{"one more at the end", []api.Rule{{From: "ab", To: "]]", End: true}}, []string{"ab", "cab"}, -1},
		{"one more at the end, which is not here", []api.Rule{{From: "ab", To: "]]", End: true}}, []string{"abc", "cabc", "abcc", "ba"}, 200},
		{"one more before n", []api.Rule{{From: "ab", To: "]]", Next: "n"}}, []string{"abn", "cabn", "abnc"}, -1},
		{"one more before n, which is not here", []api.Rule{{From: "ab", To: "]]", Next: "n"}}, []string{"ab", "abc", "cab", "abcc"}, 200},
		{"one more for three letters", []api.Rule{{From: "abc", To: "]]"}}, []string{"abc", "cabc", "abcn"}, -1},
		{"one more for three letters", []api.Rule{{From: "abc", To: "]]"}}, []string{"ab", "acb", "cab"}, 200},
		{"a way around n", []api.Rule{{From: "ab", To: "]]"}, {From: "cn", To: "X"}}, []string{"abcn", "abcncc"}, -1},
		{"few results after 201", []api.Rule{{From: "ab", To: "]]"}, {From: "bnc", To: "X"}, {From: "bna", To: "Y"}}, []string{"abnc", "cabna", "abnabc"}, -1},
		{"too many in front of a From", []api.Rule{{From: "ab", To: "]]"}, {From: "bn", To: "X"}}, []string{"abn", "abnc"}, -1},
		{"a From over too many", []api.Rule{{From: "ab", To: "]]"}, {From: "abn", To: "X"}}, []string{"abn", "abnc"}, -1},
		{"far too many", fan("ab", "]]", 40), []string{"ab", "abab", "ababn", "aaaaaaaa", strings.Repeat("ab", 12)}, -1},
	} {
		r := ruled(slices.Concat(base, x.further)...)
		accepted(t, x.name, r, from, to)
		for _, word := range x.words {
			got, err := Writings(r, from, to, word)
			if x.count < 0 && (len(got) != 0 || err != api.ErrLimit) || x.count >= 0 && (len(got) != x.count || err != api.OK) {
				t.Errorf("%v: %v has %v results, %v", x.name, word, len(got), err)
			}
		}
	}
	few := ruled(slices.Concat(base, []api.Rule{{From: "abn", To: "X"}})...)
	results(t, "a From over 200 results", few, from, to, "abn", "X")
	failed(t, "too many, and then no word", ruled(slices.Concat(base, []api.Rule{{From: "ab", To: "]]"}})...), from, to, "ab?", api.ErrArg)
	failed(t, "too many, and 25 letters", ruled(slices.Concat(base, []api.Rule{{From: "ab", To: "]]"}})...), from, to, "ab"+strings.Repeat("c", 23), api.ErrArg)
}

// K2: 80 results of one letter, and 80 rules for one number of letters.
func TestMostRules(t *testing.T) {
	var list []api.Rule
	for _, to := range textsOf(0, 3, "xyzuv")[:80] {
		list = append(list, api.Rule{From: "a", To: to})
	}
	want := textsOf(0, 3, "xyzuv")[:80]
	slices.Sort(want)
	to := script("q", "x", "y", "z", "u", "v")
	results(t, "80 rules", ruled(list...), first(), to, "a", want...)
	failed(t, "80 rules", ruled(list...), first(), to, "aa", api.ErrLimit)
	for i := range list {
		list[i].To, list[i].Next = "x", textsOf(1, 4, "abn")[i]
	}
	results(t, "80 rules to one letter", ruled(list...), first(), to, "a")
	count := 0
	for _, rule := range list {
		if strings.Contains(rule.Next, "b") {
			count++
		}
	}
	results(t, "many rules to one letter, before b", ruled(append(list[:79:79], api.Rule{From: "b"})...), first(), to, "ab", "x")
	if count < 40 {
		t.Errorf("only %v rules", count)
	}
}
