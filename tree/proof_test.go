package tree

import (
	"math"
	"math/bits"
	"slices"
	"testing"

	"gazetteer/api"
)

// pool returns all digests that stand in the tree of a list, and one of another
// element.
func pool(leaves []string) []string {
	known := leavesKnown(leaves)
	l := []string{specLeaf("other")}
	var add func(s span)
	add = func(s span) {
		l = append(l, specRoot(s, known))
		if s.size() > 1 {
			first, others := s.parts()
			add(first)
			add(others)
		}
	}
	add(span{0, len(leaves)})
	for m := range leaves {
		if d := rootOfAll(leaves[:m]); !slices.Contains(l, d) {
			l = append(l, d)
		}
	}
	return l
}

// P2.3: of all paths whose elements stand in the tree, the one of the element
// alone is accepted, and for it alone.
func TestInclusionIsBinding(t *testing.T) {
	for n := 1; n <= 5; n++ {
		l := elements(n)
		root, all := rootOfAll(l), pool(l)
		for i := range n {
			want := rootsOf(l, specPath(span{0, n}, i))
			for size := range len(want) + 2 {
				allLists(all, size, func(path []string) {
					for _, leaf := range all {
						right := leaf == l[i] && slices.Equal(path, want)
						if Check(root, n, i, leaf, path) != right {
							t.Fatalf("%q for %s at %d of %d: not %v", path, leaf, i, n, right)
						}
					}
				})
			}
		}
	}
}

// P2.6: of all links whose elements stand in the tree, the one from the first
// m elements alone is accepted, and for their root alone.
func TestConsistencyIsBinding(t *testing.T) {
	for n := range 6 {
		l := elements(n)
		root, all := rootOfAll(l), pool(l)
		for m := range n + 1 {
			first := rootOfAll(l[:m])
			var want []string
			if m > 0 && m < n {
				want = rootsOf(l, specLink(span{0, n}, m))
			}
			for size := range min(len(want)+2, 5) { // longer ones are too many
				allLists(all, size, func(link []string) {
					for _, old := range all {
						right := old == first && slices.Equal(link, want)
						if Extends(old, m, root, n, link) != right {
							t.Fatalf("%q from %s, %d to %d: not %v", link, old, m, n, right)
						}
					}
				})
			}
		}
	}
}

// A list of which an earlier element was changed does not extend the old one,
// whichever proof of the two lists is shown.
func TestChangedPast(t *testing.T) {
	for n := 2; n < 20; n++ {
		for m := 1; m < n; m++ {
			for place := range m {
				l, changed := elements(n), elements(n)
				changed[place] = specLeaf("changed")
				link, _ := Link(l, m)
				forged, _ := Link(changed, m)
				old, root := rootOfAll(l[:m]), rootOfAll(changed)
				if Extends(old, m, root, n, link) || Extends(old, m, root, n, forged) {
					t.Fatalf("the element %d of %d was changed, with %d elements", place, m, n)
				}
			}
		}
	}
}

// damaged passes proofs that differ a little from one: elements changed, left
// out, twice, put elsewhere or added.
func damaged(proof []string, pass func(l []string)) {
	extra := append([]string{specLeaf("other"), specEmpty()}, notDigests...)
	extra = append(extra, proof...)
	for i := range len(proof) + 1 {
		pass(proof[:i])
		pass(proof[i:])
		for _, text := range extra {
			pass(slices.Insert(slices.Clone(proof), i, text))
			if i < len(proof) {
				pass(slices.Replace(slices.Clone(proof), i, i+1, text))
			}
		}
		if i < len(proof) {
			pass(slices.Delete(slices.Clone(proof), i, i+1))
			pass(append(slices.Clone(proof[i:]), proof[:i]...))
		}
	}
	turned := slices.Clone(proof)
	slices.Reverse(turned)
	pass(turned)
}

// Whatever is changed of a proof or of what it proves, the answer is that of
// the chapter, which accepts nearly nothing else.
func TestDamagedPaths(t *testing.T) {
	for n := 1; n < 12; n++ {
		l := elements(n)
		root := rootOfAll(l)
		for i := range n {
			path := rootsOf(l, specPath(span{0, n}, i))
			damaged(path, func(p []string) {
				for _, size := range []int{n - 1, n, n + 1, 2 * n} {
					for _, at := range []int{i - 1, i, i + 1} {
						if want := specCheck(root, size, at, l[i], p); Check(root, size, at, l[i], p) != want {
							t.Fatalf("%q for %d of %d: not %v", p, at, size, want)
						}
					}
				}
				if !slices.Equal(p, path) && Check(root, n, i, l[i], p) {
					t.Fatalf("%q is accepted for %d of %d", p, i, n)
				}
			})
		}
	}
}

func TestDamagedLinks(t *testing.T) {
	for n := range 12 {
		l := elements(n)
		root := rootOfAll(l)
		for m := range n + 1 {
			link, _ := Link(l, m)
			old := rootOfAll(l[:m])
			damaged(link, func(p []string) {
				for _, size := range []int{n - 1, n, n + 1, 2 * n} {
					for _, first := range []int{m - 1, m, m + 1} {
						if want := specExtends(old, first, root, size, p); Extends(old, first, root, size, p) != want {
							t.Fatalf("%q for %d in %d: not %v", p, first, size, want)
						}
					}
				}
				if !slices.Equal(p, link) && Extends(old, m, root, n, p) {
					t.Fatalf("%q is accepted for %d in %d", p, m, n)
				}
			})
		}
	}
}

// Roots that really come from what is no digest are refused all the same.
func TestProofsWithWhatIsNoDigest(t *testing.T) {
	a, empty := specLeaf("a"), specEmpty()
	for _, x := range notDigests {
		for i, accepted := range []bool{
			Check(x, 1, 0, x, nil),
			Check(x, 1, 0, a, nil),
			Check(a, 1, 0, x, nil),
			Check(specNode(x, a), 2, 0, x, []string{a}),
			Check(specNode(a, x), 2, 0, a, []string{x}),
			Check(specNode(x, a), 2, 1, a, []string{x}),
			Check(specNode(specNode(a, a), x), 3, 1, a, []string{a, x}),
			Extends(x, 0, a, 1, nil),
			Extends(empty, 0, x, 1, nil),
			Extends(empty, 0, a, 1, []string{x}),
			Extends(x, 1, x, 1, nil),
			Extends(a, 1, a, 1, []string{x}),
			Extends(x, 1, specNode(x, a), 2, []string{a}),
			Extends(a, 1, specNode(a, x), 2, []string{x}),
			Extends(a, 1, x, 2, []string{a}),
			Extends(specNode(specNode(a, a), x), 3, specNode(specNode(a, a), specNode(x, a)), 4, []string{x, a, specNode(a, a)}),
		} {
			if accepted {
				t.Errorf("%d is accepted with %q", i, x)
			}
		}
	}
}

// Neither do roots help that come from nothing in place of what a proof lacks.
func TestProofsThatAreTooShort(t *testing.T) {
	a, b := specLeaf("a"), specLeaf("b")
	ab := specNode(a, b)
	for i, accepted := range []bool{
		Check(specNode(a, ""), 2, 0, a, nil),
		Check(specNode("", a), 2, 1, a, nil),
		Check(specNode(ab, ""), 3, 0, a, []string{b}),
		Check(specNode("", specNode(a, b)), 4, 2, a, []string{b}),
		Extends(a, 1, specNode(a, ""), 2, nil),
		Extends(a, 1, specNode(ab, ""), 3, []string{b}),
		Extends(specNode("", a), 3, specNode("", ab), 4, []string{a, b}),
		Extends(specNode("", ab), 6, specNode("", specNode(ab, a)), 7, []string{ab, a}),
	} {
		if accepted {
			t.Errorf("%d is accepted", i)
		}
	}
}

func TestProofsFromNothingAndFromAll(t *testing.T) {
	a, b, empty := specLeaf("a"), specLeaf("b"), specEmpty()
	for i, test := range []struct {
		old  string
		m    int
		root string
		n    int
		link []string
		want bool
	}{
		{empty, 0, empty, 0, nil, true},
		{empty, 0, empty, 0, []string{}, true},
		{empty, 0, empty, 0, []string{empty}, false},
		{empty, 0, a, 0, nil, false},
		{a, 0, a, 0, nil, false},
		{empty, 0, a, 1, nil, true},
		{empty, 0, b, 5, nil, true},
		{empty, 0, empty, 5, nil, true}, // any root is as good as another one
		{empty, 0, a, 1, []string{a}, false},
		{a, 0, a, 1, nil, false},
		{a, 1, a, 1, nil, true},
		{a, 1, b, 1, nil, false},
		{a, 1, a, 1, []string{a}, false},
		{b, 7, b, 7, nil, true},
		{b, 7, a, 7, nil, false},
		{b, 7, b, 7, []string{b}, false},
		{b, 8, b, 7, nil, false},
		{b, -1, b, 7, nil, false},
		{b, -1, b, -1, nil, false},
		{empty, -1, empty, 0, nil, false},
		{a, 1, a, 0, nil, false},
		{a, 1, specNode(a, b), 2, []string{b}, true},
		{a, 1, specNode(b, a), 2, []string{b}, false},
		{b, 1, specNode(a, b), 2, []string{b}, false},
		{a, 1, specNode(a, b), 2, nil, false},
	} {
		if got := Extends(test.old, test.m, test.root, test.n, test.link); got != test.want {
			t.Errorf("%d: %v", i, got)
		}
	}
}

// alike has the roots of lists of equal elements: they depend on sizes alone,
// so that large lists have their proofs at once.
type alike map[int]string

func (a alike) root(n int) string {
	if n == 1 {
		return specLeaf("a")
	}
	if _, ok := a[n]; !ok {
		first, others := span{0, n}.parts()
		a[n] = specNode(a.root(first.size()), a.root(others.size()))
	}
	return a[n]
}

func (a alike) roots(spans []span) []string {
	var l []string
	for _, s := range spans {
		l = append(l, a.root(s.size()))
	}
	return l
}

// places returns numbers from 1 to n - 1, those near to powers of two among them.
func places(n int) []int {
	var l []int
	for k := 1; k < n; k *= 2 {
		for _, i := range []int{k - 1, k, k + 1, n - k, n - k - 1, n / k} {
			if i > 0 && i < n {
				l = append(l, i)
			}
		}
	}
	return l
}

// Proofs about 1000000 elements are accepted, and none about more.
func TestMostElements(t *testing.T) {
	a := alike{}
	for _, n := range []int{1 << 19, 1<<19 + 1, 999999, 1000000, 1000001, 1 << 20} {
		all, want := a.root(n), n <= 1000000
		for _, at := range places(n) {
			path, link := a.roots(specPath(span{0, n}, at)), a.roots(specLink(span{0, n}, at))
			if Check(all, n, at, a.root(1), path) != want || Check(all, n, at, specLeaf("b"), path) {
				t.Errorf("the path of %d among %d", at, n)
			}
			if Extends(a.root(at), at, all, n, link) != want || Extends(specLeaf("b"), at, all, n, link) {
				t.Errorf("the link of %d in %d", at, n)
			}
			if len(path) > bits.Len(uint(n)) || len(link) > bits.Len(uint(n))+1 {
				t.Errorf("%d and %d elements of proofs about %d", len(path), len(link), n)
			}
		}
		if Extends(specEmpty(), 0, all, n, nil) != want || Extends(all, n, all, n, nil) != want {
			t.Errorf("the links from 0 and from all of %d", n)
		}
	}
}

func TestLargeList(t *testing.T) {
	const n = 1000000
	a := alike{}
	l := make([]string, n+1)
	for i := range l {
		l[i] = a.root(1)
	}
	for _, size := range []int{n, n + 1} { // lists themselves may be longer
		if root, err := Root(l[:size]); root != a.root(size) || err != api.OK {
			t.Errorf("Root of %d = %s, %d", size, root, err)
		}
	}
	all := span{0, n}
	path, err := Path(l[:n], 700000)
	if !slices.Equal(path, a.roots(specPath(all, 700000))) || err != api.OK || !Check(a.root(n), n, 700000, l[0], path) {
		t.Errorf("a path of %d elements, %d", len(path), err)
	}
	link, err := Link(l[:n], 700001)
	if !slices.Equal(link, a.roots(specLink(all, 700001))) || err != api.OK || !Extends(a.root(700001), 700001, a.root(n), n, link) {
		t.Errorf("a link of %d elements, %d", len(link), err)
	}
}

// P1: all arguments have an answer.
func TestNumbersOutOfRange(t *testing.T) {
	a := specLeaf("a")
	numbers := []int{math.MinInt, math.MinInt + 1, -1 << 32, -1, 1000001, 1 << 31, 1 << 62, 1<<62 + 1, math.MaxInt - 1, math.MaxInt}
	proofs := [][]string{nil, {a}, {a, a}, slices.Repeat([]string{a}, 100)}
	for _, x := range numbers {
		for _, y := range append(numbers, 0, 1, 2, 1000000) {
			for _, proof := range proofs {
				if Check(a, x, y, a, proof) || Check(a, y, x, a, proof) || Extends(a, x, a, y, proof) || Extends(a, y, a, x, proof) {
					t.Errorf("%d and %d, with %d elements", x, y, len(proof))
				}
			}
		}
	}
}
