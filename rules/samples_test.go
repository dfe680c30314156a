package rules

import (
	"math/rand"
	"slices"
	"strings"

	"gazetteer/api"
)

// script returns an alphabet in which each letter is its own small letter.
func script(name string, letters ...string) api.Alphabet {
	a := api.Alphabet{Name: name, Letters: slices.Clone(letters)}
	for i := range letters {
		a.Small = append(a.Small, i)
	}
	return a
}

// first and second return the alphabets of the chapter's examples.
func first() api.Alphabet  { return script("p", "a", "b", "n") }
func second() api.Alphabet { return script("q", "x", "y", "z") }

// sized returns an alphabet with letters of one, two and three bytes.
func sized(name string) api.Alphabet { return script(name, "a", "bc", "def") }

// nested returns an alphabet with letters that begin with others.
func nested(name string) api.Alphabet { return script(name, "n", "n^", "n^^", "a", "b") }

// ruled returns rules from p to q.
func ruled(list ...api.Rule) api.Rules {
	return api.Rules{From: "p", To: "q", List: list}
}

// sample returns the rules of the chapter's examples.
func sample() api.Rules {
	return ruled(
		api.Rule{From: "a", To: "x"},
		api.Rule{From: "b", To: "y"},
		api.Rule{From: "n", To: "z"},
		api.Rule{From: "n", To: "y", Next: "b"},
		api.Rule{From: "ab", To: "z"},
		api.Rule{From: "a", End: true},
	)
}

// copied returns rules in other memory.
func copied(r api.Rules) api.Rules {
	c := api.Rules{From: strings.Clone(r.From), To: strings.Clone(r.To)}
	for _, x := range r.List {
		c.List = append(c.List, api.Rule{From: strings.Clone(x.From), To: strings.Clone(x.To), Next: strings.Clone(x.Next), End: x.End})
	}
	return c
}

// same reports whether rules are equal.
func same(r, s api.Rules) bool {
	return r.From == s.From && r.To == s.To && slices.Equal(r.List, s.List)
}

// zero reports whether rules are the zero value.
func zero(r api.Rules) bool {
	return r.From == "" && r.To == "" && len(r.List) == 0
}

// numbered returns so many different rules, at most 1560, which are valid for the
// alphabets of the examples.
func numbered(count int) []api.Rule {
	var list []api.Rule
	from, to := textsOf(1, 3, "abn"), textsOf(0, 3, "xyz")
	for i := range count {
		list = append(list, api.Rule{From: from[i%len(from)], To: to[i/len(from)]})
	}
	return list
}

// spread returns so many rules, at most 40, from one letter to different texts.
func spread(from string, count int) []api.Rule {
	var list []api.Rule
	for _, to := range textsOf(0, 3, "xyz")[:count] {
		list = append(list, api.Rule{From: from, To: to})
	}
	return list
}

// textsOf returns all texts of so many bytes, at least and at most, of some bytes.
func textsOf(least, most int, bytes string) []string {
	return joined(least, most, strings.Split(bytes, ""))
}

// wordsOf returns all words of so many letters, at least and at most.
func wordsOf(least, most int, a api.Alphabet) []string {
	return joined(least, most, a.Letters)
}

// joined returns all texts of so many pieces, at least and at most.
func joined(least, most int, pieces []string) []string {
	list, last := []string{}, []string{""}
	for size := 0; size <= most; size++ {
		if size >= least {
			list = append(list, last...)
		}
		var next []string
		for _, text := range last {
			for _, piece := range pieces {
				next = append(next, text+piece)
			}
		}
		last = next
	}
	return list
}

// subsets passes all lists of at least one and at most so many different rules, in
// one order.
func subsets(rules []api.Rule, most int, pass func([]api.Rule)) {
	var choose func(from int, chosen []api.Rule)
	choose = func(from int, chosen []api.Rule) {
		if len(chosen) > 0 {
			pass(slices.Clone(chosen))
		}
		for i := from; i < len(rules) && len(chosen) < most; i++ {
			choose(i+1, append(slices.Clone(chosen), rules[i]))
		}
	}
	choose(0, nil)
}

// anyWord returns a word of some number of letters, at least and at most.
func anyWord(row *rand.Rand, a api.Alphabet, least, most int) string {
	word := ""
	for range least + row.Intn(most-least+1) {
		word += a.Letters[row.Intn(len(a.Letters))]
	}
	return word
}

// anyRule returns a rule that is valid for two alphabets.
func anyRule(row *rand.Rand, from, to api.Alphabet) api.Rule {
	rule := api.Rule{From: anyWord(row, from, 1, 3), To: anyWord(row, to, 0, 3)}
	if row.Intn(2) == 0 {
		rule.From = anyWord(row, from, 1, 1)
	}
	switch row.Intn(4) {
	case 0:
		rule.Next = anyWord(row, from, 1, 3)
	case 1:
		rule.Next = anyWord(row, from, 1, 10)
	case 2:
		rule.End = row.Intn(2) == 0
	}
	return rule
}

// anyList returns some rules, at most so many, which are valid for two alphabets.
func anyList(row *rand.Rand, from, to api.Alphabet, most int) []api.Rule {
	var list []api.Rule
	for range 1 + row.Intn(most) {
		if rule := anyRule(row, from, to); !slices.Contains(list, rule) {
			list = append(list, rule)
		}
	}
	return list
}

// scripts returns alphabets of different letters, all with one name.
func scripts(name string) []api.Alphabet {
	return []api.Alphabet{
		script(name, "a"), script(name, "a", "b"), script(name, "a", "b", "n"), sized(name), nested(name),
		script(name, "abc", "ab", "a", "d"), script(name, "!", "#", "~"), script(name, "aa", "ab", "ba", "bb"),
	}
}

// random passes many rules with their alphabets by a row of numbers: few and many,
// and each one with a word.
func random(seed int64, count int, pass func(row *rand.Rand, r api.Rules, from, to api.Alphabet, word string)) {
	row := rand.New(rand.NewSource(seed))
	left, right := scripts("p"), scripts("q")
	for range count {
		from, to := left[row.Intn(len(left))], right[row.Intn(len(right))]
		for _, most := range []int{3, 8, 20, 80} {
			pass(row, ruled(anyList(row, from, to, most)...), from, to, anyWord(row, from, 1, 6))
			pass(row, ruled(anyList(row, from, to, most)...), from, to, anyWord(row, from, 7, 24))
		}
	}
}

// damaged returns rules with one thing that is often wrong.
func damaged(row *rand.Rand, r api.Rules) api.Rules {
	r = copied(r)
	x, y := &r.List[row.Intn(len(r.List))], r.List[row.Intn(len(r.List))]
	odd := func(text string) string {
		at := row.Intn(len(text) + 1)
		return text[:at] + string([]byte{"ab?\x80 \"\x7f!~x"[row.Intn(10)]}) + text[at:]
	}
	switch row.Intn(10) {
	case 0:
		x.From = odd(x.From)
	case 1:
		x.To = odd(x.To)
	case 2:
		x.Next = odd(x.Next)
	case 3:
		x.From += y.From
	case 4:
		x.To += y.To
	case 5:
		x.Next += x.From + y.Next
	case 6:
		x.End = true
	case 7:
		x.From = x.From[1:]
	case 8:
		r.List = append(r.List, y)
	case 9:
		r.From = []string{"", "q", "7", "p q", "p_7", " p", "p"}[row.Intn(7)]
	}
	return r
}
