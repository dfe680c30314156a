package rules

import (
	"slices"

	"gazetteer/api"
	"gazetteer/lexer"
)

// failure says why a text has no rules, and where; the parser panics with it.
type failure struct {
	err api.Errno
	at  int
}

// parser reads rules from the tokens that are left of a text.
type parser struct {
	tokens []api.Token
	size   int // the length of the text
}

// take returns the next token, which has to be of a kind.
func (p *parser) take(kind int) api.Token {
	if len(p.tokens) == 0 {
		panic(failure{api.ErrEnd, p.size})
	}
	t := p.tokens[0]
	if t.Kind != kind {
		panic(failure{api.ErrSyntax, t.At})
	}
	p.tokens = p.tokens[1:]
	return t
}

// must returns a function that takes the next token, which has to be of a kind and
// to have a text, and returns its offset.
func (p *parser) must(kind int) func(text string) int {
	return func(text string) int {
		t := p.take(kind)
		if t.Text != text {
			panic(failure{api.ErrSyntax, t.At})
		}
		return t.At
	}
}

// may takes the next token if it is a word, and reports whether it is.
func (p *parser) may(word string) bool {
	if len(p.tokens) == 0 || p.tokens[0].Kind != api.TokName || p.tokens[0].Text != word {
		return false
	}
	p.tokens = p.tokens[1:]
	return true
}

// part takes the next token, which has to be a string that is proper for a rule.
func (p *parser) part(least, most int) string {
	t := p.take(api.TokString)
	if !proper(t.Text, least, most) {
		panic(failure{api.ErrArg, t.At})
	}
	return t.Text
}

// rule reads a rule up to its semicolon.
func (p *parser) rule() api.Rule {
	var rule api.Rule
	word := p.must(api.TokName)
	rule.From = p.part(1, fromBytes)
	word("to")
	rule.To = p.part(0, toBytes)
	if p.may("before") {
		rule.Next = p.part(1, nextBytes)
	} else if p.may("at") {
		word("end")
		rule.End = true
	}
	return rule
}

// rules reads rules up to the end of the text.
func (p *parser) rules() api.Rules {
	var r api.Rules
	word, symbol := p.must(api.TokName), p.must(api.TokSymbol)
	word("rules")
	r.From = p.take(api.TokName).Text
	word("to")
	r.To = p.take(api.TokName).Text
	symbol(";")
	for len(r.List) == 0 || len(p.tokens) > 0 {
		if len(r.List) == api.MaxRules {
			panic(failure{api.ErrLimit, p.take(api.TokString).At})
		}
		rule := p.rule()
		if at := symbol(";"); slices.Contains(r.List, rule) {
			panic(failure{api.ErrTwice, at})
		}
		r.List = append(r.List, rule)
	}
	return r
}

// Parse returns the rules of a text. Otherwise it returns an error and an offset:
// those of lexer.Lex; else the first from left to right of ErrSyntax at a token that
// does not continue rules, ErrLimit at the first string of the 81st rule, ErrArg at
// a string that may not stand there in a rule, ErrTwice at the semicolon behind a
// rule that was there before, and ErrEnd at the length of the text, if it ends
// before the rules do.
func Parse(text string) (r api.Rules, err api.Errno, at int) {
	tokens, err, at := lexer.Lex(text)
	if err != api.OK {
		return api.Rules{}, err, at
	}
	defer func() {
		if f, failed := recover().(failure); failed {
			r, err, at = api.Rules{}, f.err, f.at
		}
	}()
	p := parser{tokens, len(text)}
	return p.rules(), api.OK, 0
}
