package tree

import (
	"slices"

	"gazetteer/digest"
)

// The chapter's words written down once more, as directly as possible: a proof
// is first the parts of a list for which it has roots, and only then their
// roots. Nothing here is taken from the code under test.

// span is a part of a list: the elements from from up to the one before to.
type span struct{ from, to int }

func (s span) size() int { return s.to - s.from }

// parts returns the two parts from which the root of a span comes.
func (s span) parts() (span, span) {
	k := 1
	for 2*k < s.size() {
		k *= 2
	}
	return span{s.from, s.from + k}, span{s.from + k, s.to}
}

func specLeaf(text string) string { return digest.List([]string{"leaf", text}) }

func specNode(a, b string) string { return digest.List([]string{"node", a, b}) }

func specEmpty() string { return digest.List([]string{"empty"}) }

// specPath returns the spans for which the path of the element i has roots.
func specPath(s span, i int) []span {
	if s.size() == 1 {
		return nil
	}
	first, others := s.parts()
	if i < first.to {
		return append(specPath(first, i), others)
	}
	return append(specPath(others, i), first)
}

// specLink returns the spans for which the link of the elements before m has
// roots, 0 < m.
func specLink(s span, m int) []span {
	if m == s.to {
		if s.from == 0 {
			return nil
		}
		return []span{s}
	}
	first, others := s.parts()
	if m <= first.to {
		return append(specLink(first, m), others)
	}
	return append(specLink(others, m), first)
}

// specRoot returns the root of a span, if the roots of some spans are known.
func specRoot(s span, known map[span]string) string {
	if d, ok := known[s]; ok {
		return d
	}
	if s.size() == 0 {
		return specEmpty()
	}
	first, others := s.parts()
	return specNode(specRoot(first, known), specRoot(others, known))
}

// leavesKnown returns what is known of a list itself.
func leavesKnown(leaves []string) map[span]string {
	known := map[span]string{}
	for i, d := range leaves {
		known[span{i, i + 1}] = d
	}
	return known
}

// rootsOf returns the roots of spans of a list.
func rootsOf(leaves []string, spans []span) []string {
	known := leavesKnown(leaves)
	var l []string
	for _, s := range spans {
		l = append(l, specRoot(s, known))
	}
	return l
}

func rootOfAll(leaves []string) string {
	return specRoot(span{0, len(leaves)}, leavesKnown(leaves))
}

// allDigests does not use the package's own test of a list.
func allDigests(l ...string) bool {
	for _, d := range l {
		if !digest.Is(d) {
			return false
		}
	}
	return true
}

// specCheck is what B2 says of Check.
func specCheck(root string, n, i int, leaf string, path []string) bool {
	if i < 0 || i > n-1 || n > 1000000 || !allDigests(leaf) || !allDigests(path...) {
		return false
	}
	spans := specPath(span{0, n}, i)
	if len(spans) != len(path) {
		return false
	}
	known := map[span]string{{i, i + 1}: leaf}
	for j, s := range spans {
		known[s] = path[j]
	}
	return specRoot(span{0, n}, known) == root
}

// specExtends is what B4 says of Extends.
func specExtends(old string, m int, root string, n int, link []string) bool {
	if m < 0 || m > n || n > 1000000 || !allDigests(old, root) || !allDigests(link...) {
		return false
	}
	if m == 0 {
		return len(link) == 0 && old == specEmpty() && (n != 0 || root == old)
	}
	if m == n {
		return len(link) == 0 && old == root
	}
	spans := specLink(span{0, n}, m)
	if len(spans) != len(link) {
		return false
	}
	known := map[span]string{}
	for j, s := range spans {
		known[s] = link[j]
	}
	if !slices.ContainsFunc(spans, func(s span) bool { return s.to <= m }) {
		known[span{0, m}] = old // the link has nothing for it
	}
	return specRoot(span{0, m}, known) == old && specRoot(span{0, n}, known) == root
}
