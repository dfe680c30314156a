package rules

import (
	"math/rand"
	"regexp"
	"slices"
	"strings"
	"sync"
	"testing"

	"gazetteer/alphabet"
	"gazetteer/api"
	"gazetteer/lexer"
)

// lettersOf returns the letters of a word, and fails the test if it is none.
func lettersOf(t *testing.T, a api.Alphabet, word string) []string {
	t.Helper()
	read, err, _ := alphabet.Read(a, word)
	if err != api.OK {
		t.Fatalf("%q is no word: %v", word, err)
	}
	var letters []string
	for _, i := range read {
		letters = append(letters, a.Letters[i])
	}
	return letters
}

// union returns the different texts of lists, in increasing order.
func union(lists ...[]string) []string {
	list := slices.Concat(lists...)
	slices.Sort(list)
	return slices.Compact(list)
}

// lost returns a text of the first list that is not in the second one, if there is one.
func lost(list, other []string) (string, bool) {
	for _, text := range list {
		if !slices.Contains(other, text) {
			return text, true
		}
	}
	return "", false
}

// mayStand reports whether a rule may stand first in a word with some letters, and
// how many of these its From has.
func mayStand(t *testing.T, rule api.Rule, from api.Alphabet, letters []string) (int, bool) {
	t.Helper()
	first := lettersOf(t, from, rule.From)
	if len(first) > len(letters) || !slices.Equal(first, letters[:len(first)]) {
		return 0, false
	}
	left := letters[len(first):]
	if rule.End && len(left) > 0 {
		return 0, false
	}
	if rule.Next != "" && (len(left) == 0 || !slices.Contains(lettersOf(t, from, rule.Next), left[0])) {
		return 0, false
	}
	return len(first), true
}

// P11.2
func TestFirstRule(t *testing.T) {
	words, ends, nothing := 0, 0, 0
	random(30, 400, func(row *rand.Rand, r api.Rules, from, to api.Alphabet, word string) {
		letters := lettersOf(t, from, word)
		got, err := Writings(r, from, to, word)
		if err != api.OK {
			return
		}
		var all []string
		for _, rule := range r.List {
			count, is := mayStand(t, rule, from, letters)
			if is && count == len(letters) {
				all = append(all, rule.To)
				ends++
			} else if is {
				left, err := Writings(r, from, to, strings.Join(letters[count:], ""))
				if err != api.OK {
					return
				}
				for _, text := range left {
					all = append(all, rule.To+text)
				}
			}
		}
		if want := union(all); !slices.Equal(got, want) {
			t.Fatalf("%v: %q has %q, not %q", r, word, got, want)
		}
		if len(got) == 0 {
			nothing++
		}
		words++
	})
	if words < 2000 || ends < 200 || words-nothing < 600 {
		t.Errorf("%v words, %v of them without a result, %v rules for whole words", words, nothing, ends)
	}
}

// P11.3
func TestPlainRules(t *testing.T) {
	row := rand.New(rand.NewSource(31))
	count := [2]int{}
	for _, from := range scripts("p") {
		for _, to := range scripts("q") {
			for range 30 {
				plain := map[string]string{}
				r := ruled()
				for _, i := range row.Perm(len(from.Letters))[:1+row.Intn(len(from.Letters))] {
					rule := api.Rule{From: from.Letters[i], To: anyWord(row, to, 0, 3)}
					r.List = append(r.List, rule)
					plain[rule.From] = rule.To
				}
				for range 10 {
					word := anyWord(row, from, 1, 1+row.Intn(24))
					var want []string
					text, all := "", true
					for _, letter := range lettersOf(t, from, word) {
						result, is := plain[letter]
						text, all = text+result, all && is
					}
					if all {
						want = []string{text}
						count[1]++
					} else {
						count[0]++
					}
					results(t, "plain rules", r, from, to, word, want...)
				}
			}
		}
	}
	if count[0] < 5000 || count[1] < 5000 {
		t.Errorf("%v words", count)
	}
	var list []api.Rule
	for _, letter := range many("p", 60).Letters {
		list = append(list, api.Rule{From: letter, To: letter + letter})
	}
	word := strings.Join(many("p", 60).Letters[30:54], "")
	results(t, "60 plain rules", ruled(list...), many("p", 60), many("q", 60), word, doubled(word))
}

// doubled returns each byte of a text twice.
func doubled(text string) string {
	var b strings.Builder
	for i := range len(text) {
		b.WriteString(text[i:i+1] + text[i:i+1])
	}
	return b.String()
}

// P11.4: a further rule, at any place.
func TestFurtherRule(t *testing.T) {
	more, kept := 0, 0
	random(32, 400, func(row *rand.Rand, r api.Rules, from, to api.Alphabet, word string) {
		rule := anyRule(row, from, to)
		if slices.Contains(r.List, rule) || len(r.List) == 80 {
			return
		}
		further := ruled(slices.Insert(slices.Clone(r.List), row.Intn(len(r.List)+1), rule)...)
		if !Valid(further, from, to) {
			t.Fatalf("%v: not valid with a further rule", further)
		}
		old, err := Writings(r, from, to, word)
		got, err2 := Writings(further, from, to, word)
		if err2 == api.ErrLimit {
			return
		}
		if err != api.OK || err2 != api.OK {
			t.Fatalf("%v: %q has %v, with a further rule %v", r, word, err, err2)
		}
		if text, is := lost(old, got); is {
			t.Fatalf("%v: %q has not %q any more with %v", r, word, text, rule)
		}
		kept += len(old)
		if len(got) > len(old) {
			more++
		}
	})
	if more < 100 || kept < 5000 {
		t.Errorf("%v words with more results, %v results", more, kept)
	}
}

// P11.4: the order of the rules.
func TestOrderOfRules(t *testing.T) {
	found := 0
	random(33, 300, func(row *rand.Rand, r api.Rules, from, to api.Alphabet, word string) {
		got, err := Writings(r, from, to, word)
		back := copied(r)
		slices.Reverse(back.List)
		mixed := copied(r)
		row.Shuffle(len(r.List), func(i, j int) { mixed.List[i], mixed.List[j] = mixed.List[j], mixed.List[i] })
		for _, other := range []api.Rules{back, mixed} {
			again, err2 := Writings(other, from, to, word)
			if !slices.Equal(got, again) || err != err2 || !Valid(other, from, to) {
				t.Fatalf("%v: %q has %q, %v, and in another order %q, %v", r, word, got, err, again, err2)
			}
		}
		found += len(got)
	})
	if found < 5000 {
		t.Errorf("only %v results", found)
	}
}

// withRule returns rules with another one in a place, and whether they are valid:
// this one may be there already.
func withRule(r api.Rules, i int, from, to api.Alphabet, rules ...api.Rule) (api.Rules, bool) {
	list := slices.Concat(r.List[:i], r.List[i+1:])
	for _, rule := range rules {
		if slices.Contains(list, rule) {
			return api.Rules{}, false
		}
		list = append(list, rule)
	}
	r.List = list
	return r, Valid(r, from, to)
}

// P11.5: without Next, or without End, a rule leads to all that it led to.
func TestWithoutContext(t *testing.T) {
	nexts, ends, more := 0, 0, 0
	random(34, 500, func(row *rand.Rand, r api.Rules, from, to api.Alphabet, word string) {
		old, err := Writings(r, from, to, word)
		for i, rule := range r.List {
			if rule.Next == "" && !rule.End || err != api.OK || row.Intn(len(r.List)) > 5 {
				continue
			}
			free, valid := withRule(r, i, from, to, api.Rule{From: rule.From, To: rule.To})
			got, err2 := Writings(free, from, to, word)
			if !valid || err2 == api.ErrLimit {
				continue
			}
			if text, is := lost(old, got); is || err2 != api.OK {
				t.Fatalf("%v: %q has not %q any more without a context: %v", r, word, text, err2)
			}
			if len(old) > 0 && rule.End {
				ends++
			} else if len(old) > 0 {
				nexts++
			}
			if len(got) > len(old) {
				more++
			}
		}
	})
	if nexts < 500 || ends < 50 || more < 200 {
		t.Errorf("%v with Next, %v with End, %v with more results", nexts, ends, more)
	}
}

// P11.5: one rule with several letters as Next, and one rule for each of them.
func TestLettersOfNext(t *testing.T) {
	count, found := 0, 0
	random(35, 400, func(row *rand.Rand, r api.Rules, from, to api.Alphabet, word string) {
		got, err := Writings(r, from, to, word)
		for i, rule := range r.List {
			if rule.Next == "" || row.Intn(len(r.List)) > 5 {
				continue
			}
			var each []api.Rule
			for _, letter := range union(lettersOf(t, from, rule.Next)) {
				each = append(each, api.Rule{From: rule.From, To: rule.To, Next: letter})
			}
			parts, valid := withRule(r, i, from, to, each...)
			if !valid || len(each) < 2 {
				continue
			}
			again, err2 := Writings(parts, from, to, word)
			if !slices.Equal(got, again) || err != err2 {
				t.Fatalf("%v: %q has %q, %v, and with one rule for each letter %q, %v", r, word, got, err, again, err2)
			}
			count++
			found += len(got)
		}
	})
	if count < 1000 || found < 5000 {
		t.Errorf("%v rules, %v results", count, found)
	}
}

// formedBytes returns formed rules, of any bytes.
func formedBytes(row *rand.Rand) api.Rules {
	text := func(least, most int) string {
		b := make([]byte, least+row.Intn(most-least+1))
		for i := range b {
			b[i] = byte(35 + row.Intn(92))
		}
		return string(b)
	}
	names := []string{"p", "q", "rules", "to", "at", "end", "before", "Z_9", strings.Repeat("n", 24)}
	r := api.Rules{From: names[row.Intn(len(names))], To: names[row.Intn(len(names))]}
	for range 1 + row.Intn(80) {
		rule := api.Rule{From: text(1, 9), To: text(0, 9)}
		switch row.Intn(3) {
		case 0:
			rule.Next = text(1, 30)
		case 1:
			rule.End = true
		}
		if !slices.Contains(r.List, rule) {
			r.List = append(r.List, rule)
		}
	}
	return r
}

// P11.6: Parse returns the rules of their text.
func TestTextsOfRules(t *testing.T) {
	row := rand.New(rand.NewSource(36))
	for range 1000 {
		r := formedBytes(row)
		formedRules(t, "rules of any bytes", r)
	}
	random(37, 100, func(_ *rand.Rand, r api.Rules, _, _ api.Alphabet, _ string) {
		formedRules(t, "rules that are valid", r)
	})
}

// changed returns rules that differ in little from others; some of them are not
// formed.
func changed(row *rand.Rand, r api.Rules) api.Rules {
	r = copied(r)
	i := row.Intn(len(r.List))
	j := row.Intn(len(r.List))
	x, y := &r.List[i], &r.List[j]
	switch row.Intn(10) {
	case 0:
		x.From, y.From = y.From, x.From
	case 1:
		x.To, y.To = y.To, x.To
	case 2:
		x.Next, y.Next = y.Next, x.Next
	case 3:
		x.End = !x.End
	case 4:
		*x, *y = *y, *x
	case 5:
		x.From, x.To = x.To, x.From
	case 6:
		x.Next = ""
	case 7:
		r.List = slices.Delete(r.List, i, i+1)
	case 8:
		r.From, r.To = r.To, r.From
	case 9:
		x.From, x.To = x.From+x.To[:min(1, len(x.To))], x.To[min(1, len(x.To)):]
	}
	return r
}

// P11.6: different formed rules have different texts.
func TestDifferentTexts(t *testing.T) {
	row := rand.New(rand.NewSource(38))
	different := 0
	for range 300 {
		r := formedBytes(row)
		r.List = r.List[:min(len(r.List), 5)]
		text, err := Text(r)
		if err != api.OK {
			t.Fatalf("%v has no text: %v", r, err)
		}
		for range 30 {
			other := changed(row, r)
			text2, err := Text(other)
			if err == api.OK && (text == text2) != same(r, other) {
				t.Fatalf("%v and %v have the text %q", r, other, text)
			}
			if err == api.OK && text != text2 {
				different++
			}
		}
	}
	if different < 3000 {
		t.Errorf("only %v texts", different)
	}
	seen := map[string]api.Rule{}
	for _, from := range textsOf(1, 2, "ab") {
		for _, to := range textsOf(0, 2, "ab") {
			for _, next := range textsOf(0, 2, "ab") {
				for _, end := range []bool{false, true} {
					rule := api.Rule{From: from, To: to, Next: next, End: end}
					text, err := Text(ruled(rule))
					if other, is := seen[text]; is && err == api.OK || (err == api.OK) != (next == "" || !end) {
						t.Errorf("%v and %v: %q, %v", rule, other, text, err)
					}
					seen[text] = rule
				}
			}
		}
	}
}

// P11.6: what Parse returns is formed, and has the text from which it is parsed again.
func TestParsedRules(t *testing.T) {
	row := rand.New(rand.NewSource(39))
	words := []string{"rules p to q;", "\"a\" to \"x\"", "\"a\" to \"\"", "\"b\" to \"x\"", "\"b\"to\"!~\"", "before \"b\"", "before\"ab\"", "at end", ";", ";", ";", "# x\n", " ", "\n", "\"\" to \"\"", "\" \" to \"x\""}
	count := 0
	for range 60000 {
		text := "rules p to q;"
		for range row.Intn(9) {
			text += words[row.Intn(len(words))] + " "
		}
		text += ";"
		r, err, _ := Parse(text)
		if err != api.OK {
			continue
		}
		count++
		again, err := Text(r)
		if !specFormed(r) || err != api.OK {
			t.Fatalf("%q is parsed as %v, which is not formed: %v", text, r, err)
		}
		parsed(t, again, r)
	}
	if count < 1000 {
		t.Errorf("only %v texts with rules", count)
	}
}

// P11.7: gaps between tokens make no difference but for offsets, whether the tokens
// are those of rules or not.
func TestGaps(t *testing.T) {
	gaps := []string{" ", "\n", "\t", "  ", "# a comment\n", "#\n", "\n\n# \"a\" to \"x\";\n\t", " #;\n"}
	none := append([]string{""}, gaps...)
	count := map[api.Errno]int{}
	random(40, 80, func(row *rand.Rand, r api.Rules, _, _ api.Alphabet, _ string) {
		r.List = r.List[:min(len(r.List), 6)]
		text, _ := Text(r)
		lines := strings.SplitAfter(text, "\n")
		for _, changed := range []string{text, text, text + lines[1+row.Intn(len(r.List))], strings.Replace(text, "\" to", " \" to", 1)} {
			tokens, _, _ := lexer.Lex(changed)
			i, j := row.Intn(len(tokens)), row.Intn(len(tokens))
			count[compareGaps(t, row, tokens, gaps, none)]++
			count[compareGaps(t, row, tokens[:i], gaps, none)]++
			count[compareGaps(t, row, slices.Delete(slices.Clone(tokens), i, i+1), gaps, none)]++
			count[compareGaps(t, row, slices.Insert(tokens, i, tokens[j]), gaps, none)]++
		}
	})
	if len(count) != 5 || count[api.OK] < 500 || count[api.ErrSyntax] < 500 || count[api.ErrEnd] < 500 || count[api.ErrTwice] < 200 || count[api.ErrArg] < 200 {
		t.Errorf("%v", count)
	}
}

// compareGaps compares tokens with one blank between two and with other gaps.
func compareGaps(t *testing.T, row *rand.Rand, tokens []api.Token, gaps, none []string) api.Errno {
	t.Helper()
	plain, other := "", none[row.Intn(len(none))]
	var places, others []int
	for i, token := range tokens {
		text := token.Text
		if token.Kind == api.TokString {
			text = "\"" + text + "\""
		}
		places, others = append(places, len(plain)), append(others, len(other))
		plain += text + " "
		gap := none[row.Intn(len(none))]
		if i+1 < len(tokens) && token.Kind == api.TokName && tokens[i+1].Kind == api.TokName {
			gap = gaps[row.Intn(len(gaps))]
		}
		other += text + gap
	}
	places, others = append(places, len(plain)), append(others, len(other))
	r, err, at := Parse(plain)
	r2, err2, at2 := Parse(other)
	i, j := slices.Index(places, at), slices.Index(others, at2)
	if !same(r, r2) || err != err2 || err != api.OK && (i < 0 || i != j) || err == api.OK && (at != 0 || at2 != 0) {
		t.Fatalf("%q is parsed as %v, %v, %v, and %q as %v, %v, %v", plain, r, err, at, other, r2, err2, at2)
	}
	return err
}

// P11.7: where no gap is needed, and where one changes the tokens.
func TestNeededGaps(t *testing.T) {
	want := ruled(api.Rule{From: "a", To: "x", Next: "b"}, api.Rule{From: "a", End: true})
	parsed(t, "rules p to q;\"a\"to\"x\"before\"b\";\"a\"to\"\"at end;", want)
	parsed(t, "rules#\np#\nto#\nq#\n;#\n\"a\"#\nto#\n\"x\"#\nbefore#\n\"b\"#\n;#\n\"a\"#\nto#\n\"\"#\nat#\nend#\n;#", want)
	parsed(t, strings.Repeat(" \n\t", 6000)+"rules p to q;\"a\"to\"x\"before\"b\";\"a\"to\"\"at end;", want)
	wrong(t, "rulesp to q;\"a\"to\"x\";", api.ErrSyntax, 0)
	wrong(t, "rules pto q;\"a\"to\"x\";", api.ErrSyntax, 10)
	wrong(t, "rules p toq;\"a\"to\"x\";", api.ErrSyntax, 8)
	wrong(t, "rules p to q;\"a\"to\"x\"atend;", api.ErrSyntax, 21)
	wrong(t, "rules p to q;\"a\"t o\"x\";", api.ErrSyntax, 16)
	wrong(t, "rules p to q;\"a\"to\"x\"be fore\"b\";", api.ErrSyntax, 21)
	wrong(t, "rules p to q;\"a\"to\" x\";", api.ErrArg, 18)
	wrong(t, "rules p to q;\"a#\n\"to\"x\";", api.ErrEnd, 13)
}

// strange returns rules that are as large, or as wrong, as they can be.
func strange() []api.Rules {
	long := strings.Repeat("a", 1<<22)
	var deep []api.Rule
	for _, next := range textsOf(1, 4, "ab?")[:80] {
		deep = append(deep, api.Rule{From: "a", Next: next})
	}
	return []api.Rules{
		{}, {From: "p", To: "q"}, {From: long, To: long}, {From: long, To: long, List: sample().List}, {From: "p", List: sample().List},
		ruled(make([]api.Rule, 1<<20)...), ruled(make([]api.Rule, 80)...), ruled(api.Rule{From: long}), ruled(api.Rule{From: "a", To: long}), ruled(api.Rule{From: "a", Next: long}),
		ruled(api.Rule{From: "a", Next: long, End: true}), ruled(api.Rule{To: "x"}), ruled(api.Rule{Next: "a"}), ruled(api.Rule{End: true}),
		ruled(api.Rule{From: "\xff"}), ruled(api.Rule{From: "a", To: "\xff"}), ruled(api.Rule{From: "a", Next: "\x00"}),
		{From: "\xff", To: "\x00", List: sample().List}, ruled(deep...), ruled(append(deep, deep...)...), sample(),
	}
}

// P1: nothing panics, or goes on without an end, and with an error there is nothing
// else but an offset.
func TestStrangeArguments(t *testing.T) {
	long := strings.Repeat("a", 1<<22)
	alphabets := []api.Alphabet{
		{}, first(), second(), script("p"), script("p", ""), script("p", long), script("p", "\xff"), script("p", make([]string, 1<<20)...), {Name: long, Letters: []string{"a"}, Small: []int{0}},
		{Name: "p", Letters: []string{"a"}, Small: []int{-1}}, {Name: "p", Letters: []string{"a"}}, script("p", "a", "ab", "b"),
	}
	words := []string{"", "a", "?", "\x00", "\xff", long, strings.Repeat("a", 24), strings.Repeat("\u00e4", 1<<20)}
	for i, r := range strange() {
		if text, err := Text(r); (err == api.OK) != specFormed(r) || (err == api.OK) != (text != "") || err != api.OK && err != api.ErrArg {
			t.Errorf("%v: the text %.50q, %v", i, text, err)
		}
		for j, from := range alphabets {
			for _, to := range alphabets[j%3:] {
				valid := Valid(r, from, to)
				if valid != specValid(r, from, to) {
					t.Errorf("%v: %v", i, valid)
				}
				for _, word := range words {
					got, err := Writings(r, from, to, word)
					if err != api.OK && (len(got) != 0 || err != api.ErrArg && err != api.ErrLimit) || !valid && err != api.ErrArg {
						t.Errorf("%v: %.20q has %.50q, %v", i, word, got, err)
					}
				}
			}
		}
	}
	for _, text := range []string{"", "\x00", "\xff\xfe", long, strings.Repeat("\"", 1<<22), strings.Repeat("\"a\" ", 5000), strings.Repeat("rules ", 3000), "rules p to q;" + strings.Repeat("\"a\" ", 4000), strings.Repeat("\u00e4", 1<<20)} {
		if r, err, at := Parse(text); !zero(r) || err == api.OK || at < -1 || at > len(text) {
			t.Errorf("%.20q is parsed as %v, %v, %v", text, r, err, at)
		}
	}
}

// P3 and the rules: equal arguments have equal results, also for other memory and
// after other calls; nothing that is passed is changed or kept.
func TestIndependence(t *testing.T) {
	other := func(a api.Alphabet) api.Alphabet {
		b := api.Alphabet{Name: strings.Clone(a.Name), Small: slices.Clone(a.Small)}
		for _, letter := range a.Letters {
			b.Letters = append(b.Letters, strings.Clone(letter))
		}
		return b
	}
	random(41, 100, func(row *rand.Rand, r api.Rules, from, to api.Alphabet, word string) {
		kept, keptFrom, keptTo := copied(r), other(from), other(to)
		got, err := Writings(r, from, to, word)
		want := slices.Clone(got)
		text, _ := Text(r)
		list, _, _ := Parse(text)
		for i := range got {
			got[i] = "" // a result that was changed
		}
		for i := range list.List {
			list.List[i] = api.Rule{}
		}
		for range 3 {
			again, err2 := Writings(copied(kept), other(keptFrom), other(keptTo), strings.Clone(word))
			text2, err3 := Text(copied(kept))
			if !slices.Equal(again, want) || err != err2 || text2 != text || err3 != api.OK || !Valid(copied(kept), other(keptFrom), other(keptTo)) {
				t.Fatalf("%v: other results for %q", kept, word)
			}
			parsed(t, strings.Clone(text), kept)
			Writings(sample(), first(), second(), "nab")
			Parse("rules p to q; \"a\" to \"\"; \"a\" to \"\";")
			Text(ruled())
		}
		if !same(r, kept) || !slices.Equal(from.Letters, keptFrom.Letters) || !slices.Equal(from.Small, keptFrom.Small) || !slices.Equal(to.Letters, keptTo.Letters) || !slices.Equal(to.Small, keptTo.Small) {
			t.Fatalf("%v: arguments were changed to %v", kept, r)
		}
	})
}

// P3: calls at the same time do not disturb each other.
func TestSameTime(t *testing.T) {
	r, from, to := sample(), first(), second()
	var group sync.WaitGroup
	failures := make([]int, 8)
	for n := range failures {
		group.Add(1)
		go func() {
			defer group.Done()
			word := []string{"ab", "nb", "na", "aab"}[n%4]
			want := [][]string{{"xy", "z"}, {"yy", "zy"}, {"z", "zx"}, {"xxy", "xz"}}[n%4]
			for range 300 {
				got, err := Writings(r, from, to, word)
				text, err2 := Text(r)
				list, err3, _ := Parse(text)
				_, err4, at := Parse(text + "x")
				if !slices.Equal(got, want) || err != api.OK || err2 != api.OK || !same(list, r) || err3 != api.OK || err4 != api.ErrSyntax || at != len(text) || !Valid(r, from, to) {
					failures[n]++
				}
			}
		}()
	}
	group.Wait()
	if slices.Max(failures) > 0 {
		t.Errorf("%v calls had other results", failures)
	}
}

// The text of rules as the chapter describes it: one blank between words, a
// semicolon directly behind the last one, and a line feed behind it.
func TestLines(t *testing.T) {
	head := regexp.MustCompile(`^rules [A-Za-z]\w* to [A-Za-z]\w*;$`)
	line := regexp.MustCompile(`^"[^"]+" to "[^"]*"(?: before "[^"]+"| at end)?;$`)
	row := rand.New(rand.NewSource(42))
	for range 300 {
		r := formedBytes(row)
		text, _ := Text(r)
		lines := strings.Split(text, "\n")
		if len(lines) != len(r.List)+2 || lines[len(lines)-1] != "" || !head.MatchString(lines[0]) {
			t.Fatalf("%q", text)
		}
		for i, l := range lines[1 : len(lines)-1] {
			if !line.MatchString(l) || strings.Contains(l, "before") && r.List[i].Next == "" && !strings.Contains(r.List[i].From+r.List[i].To, "before") || strings.HasSuffix(l, "at end;") != r.List[i].End {
				t.Fatalf("%q", l)
			}
		}
	}
}
