package tree

import (
	"fmt"
	"math"
	"math/bits"
	"slices"
	"strings"
	"testing"

	"gazetteer/api"
	"gazetteer/digest"
)

// elements returns the digests of n different elements.
func elements(n int) []string {
	var l []string
	for i := range n {
		l = append(l, specLeaf(fmt.Sprintf("x%d", i)))
	}
	return l
}

// notDigests are texts that are nearly digests.
var notDigests = []string{"", "x", "0123456789abcde", "0123456789abcdef0", "0123456789ABCDEF", "0123456789abcdeg", " 123456789abcdef"}

// The known digests below were computed by a separate program, written from
// the chapters alone.

func TestLeaf(t *testing.T) {
	for _, test := range []struct{ text, want string }{
		{"", "58de1b2ad134462a"},
		{"a", "3b98fe9759294077"},
		{"node", "6d324a917771bd29"},
		{"x0", "9e2367b79fa48385"},
		{"\xff\x00", digest.Sum("4:leaf2:\xff\x00")},
	} {
		if got := Leaf(test.text); got != test.want {
			t.Errorf("Leaf(%q) = %s, want %s", test.text, got, test.want)
		}
	}
}

func TestRootOfKnownLists(t *testing.T) {
	for _, test := range []struct {
		n    int
		want string
	}{
		{0, "dbc73d33a17030fc"},
		{1, "9e2367b79fa48385"},
		{2, "bcb316d7b8fade26"},
		{3, "4121d538819f1b61"},
		{4, "7587c91a326c52d1"},
		{5, "a4e9bd02f39bbdad"},
		{6, "f1c732df9ea4b2a6"},
		{7, "594aac30482e2210"},
		{8, "15a079ec11bbaf33"},
		{9, "516a73d6ee40e675"},
		{13, "9fb9483cef6cfdc6"},
		{16, "9c84eb9178be1060"},
		{17, "73a08d7118d72475"},
	} {
		if got, err := Root(elements(test.n)); got != test.want || err != api.OK {
			t.Errorf("Root of %d = %s, %d, want %s", test.n, got, err, test.want)
		}
	}
}

// proofTest is a proof about n elements: the path of the element at, or the
// link from the first at of them.
type proofTest struct {
	n, at int
	want  string
}

func (test proofTest) run(t *testing.T, name string, make func([]string, int) ([]string, api.Errno)) {
	t.Helper()
	got, err := make(elements(test.n), test.at)
	if strings.Join(got, " ") != test.want || err != api.OK {
		t.Errorf("%s of %d among %d = %q, %d, want %s", name, test.at, test.n, got, err, test.want)
	}
}

func TestPathOfKnownLists(t *testing.T) {
	for _, test := range []proofTest{
		{1, 0, ""},
		{3, 2, "bcb316d7b8fade26"},
		{3, 0, "95990d02a5a23928 d5190080710dace0"},
		{7, 6, "b8a47fa3ff057ca1 7587c91a326c52d1"},
		{7, 1, "9e2367b79fa48385 a37bc7b0941768b4 6276c54fa9abb05e"},
		{9, 8, "15a079ec11bbaf33"},
		{13, 9, "7e70cc4c75981d2d 971c34951095b962 65a88325515d0567 15a079ec11bbaf33"},
		{13, 12, "5e89c9e28c4e838c 15a079ec11bbaf33"},
	} {
		test.run(t, "Path", Path)
	}
}

// Links from 0 and from all are empty, and so is what a link has for the first
// m if these are a part; elsewhere a part that is a subtree has its root there.
func TestLinkOfKnownLists(t *testing.T) {
	for _, test := range []proofTest{
		{0, 0, ""},
		{1, 0, ""},
		{1, 1, ""},
		{13, 0, ""},
		{13, 13, ""},
		{16, 16, ""},
		{3, 1, "95990d02a5a23928 d5190080710dace0"},
		{3, 2, "d5190080710dace0"},
		{7, 3, "d5190080710dace0 7527c144240f6c31 bcb316d7b8fade26 6276c54fa9abb05e"},
		{7, 4, "6276c54fa9abb05e"},
		{7, 6, "b8a47fa3ff057ca1 6974f2bb2f7a3d41 7587c91a326c52d1"},
		{13, 8, "aaa134c4bea78e87"},
		{13, 9, "7e70cc4c75981d2d 6977e5b6772bda0d 971c34951095b962 65a88325515d0567 15a079ec11bbaf33"},
		{13, 11, "c84d917b6cf510d1 38b7afb746b1b3c6 63390173441d42a1 65a88325515d0567 15a079ec11bbaf33"},
		{13, 12, "5e89c9e28c4e838c 65a88325515d0567 15a079ec11bbaf33"},
	} {
		test.run(t, "Link", Link)
	}
}

func TestAsTheChapterSays(t *testing.T) {
	for n := range 70 {
		l := elements(n)
		all := span{0, n}
		if got, err := Root(l); got != rootOfAll(l) || err != api.OK {
			t.Fatalf("Root of %d = %s, %d", n, got, err)
		}
		for i := range n {
			if got, err := Path(l, i); !slices.Equal(got, rootsOf(l, specPath(all, i))) || err != api.OK {
				t.Fatalf("Path of %d among %d = %q, %d", i, n, got, err)
			}
		}
		for m := 1; m < n; m++ {
			if got, err := Link(l, m); !slices.Equal(got, rootsOf(l, specLink(all, m))) || err != api.OK {
				t.Fatalf("Link of %d in %d = %q, %d", m, n, got, err)
			}
		}
	}
}

func TestListsWithWhatIsNoDigest(t *testing.T) {
	for _, n := range []int{1, 2, 5, 8} {
		for place := range n {
			for _, text := range notDigests {
				l := elements(n)
				l[place] = text
				if got, err := Root(l); got != "" || err != api.ErrArg {
					t.Errorf("Root with %q = %q, %d", text, got, err)
				}
				for i := range n {
					if got, err := Path(l, i); len(got) != 0 || err != api.ErrArg {
						t.Errorf("Path with %q = %q, %d", text, got, err)
					}
				}
				for m := range n + 1 {
					if got, err := Link(l, m); len(got) != 0 || err != api.ErrArg {
						t.Errorf("Link with %q = %q, %d", text, got, err)
					}
				}
			}
		}
	}
}

func TestIndicesAndSizesOutOfRange(t *testing.T) {
	for n := range 10 {
		for _, i := range []int{math.MinInt, -2, -1, n, n + 1, 2*n + 1, 1 << 32, math.MaxInt} {
			if got, err := Path(elements(n), i); len(got) != 0 || err != api.ErrArg {
				t.Errorf("Path of %d among %d = %q, %d", i, n, got, err)
			}
			if got, err := Link(elements(n), i); i != n && (len(got) != 0 || err != api.ErrArg) {
				t.Errorf("Link of %d in %d = %q, %d", i, n, got, err)
			}
		}
	}
}

// P2.2 and P2.5.
func TestProofsAreAccepted(t *testing.T) {
	for n := range 70 {
		l := elements(n)
		root := rootOfAll(l)
		for i := range n {
			if path, _ := Path(l, i); !Check(root, n, i, l[i], path) {
				t.Errorf("the path of %d among %d", i, n)
			}
		}
		for m := range n + 1 {
			if link, _ := Link(l, m); !Extends(rootOfAll(l[:m]), m, root, n, link) {
				t.Errorf("the link of %d in %d", m, n)
			}
		}
	}
}

// P2.4: all lists of a length whose elements are taken from three.
func TestListsOfOneLengthHaveDifferentRoots(t *testing.T) {
	for n := range 8 {
		seen := map[string][]string{}
		allLists(elements(3), n, func(l []string) {
			root, err := Root(l)
			if other, ok := seen[root]; ok || err != api.OK {
				t.Fatalf("%q and %q have the root %s, %d", l, other, root, err)
			}
			seen[root] = slices.Clone(l)
		})
	}
}

// allLists passes all lists of n elements of a pool, in one slice.
func allLists(pool []string, n int, pass func(l []string)) {
	l := make([]string, n)
	var fill func(i int)
	fill = func(i int) {
		if i == n {
			pass(l)
			return
		}
		for _, text := range pool {
			l[i] = text
			fill(i + 1)
		}
	}
	fill(0)
}

// checkSize fails the test if a proof has more elements than P2.7 allows.
func checkSize(t *testing.T, proof []string, err api.Errno, n, most int) {
	t.Helper()
	if err != api.OK || len(proof) > most {
		t.Errorf("%d elements of a proof about %d, %d", len(proof), n, err)
	}
}

// P2.7.
func TestSizesOfProofs(t *testing.T) {
	for n := 1; n < 140; n++ {
		l := elements(n)
		for at := range n + 1 {
			if at < n {
				path, err := Path(l, at)
				checkSize(t, path, err, n, bits.Len(uint(n)))
			}
			link, err := Link(l, at)
			checkSize(t, link, err, n, bits.Len(uint(n))+1)
		}
	}
}

// What is returned can be changed without a later call being changed by it,
// and what was passed stays as it was (P3).
func TestIndependence(t *testing.T) {
	l := elements(11)
	root, _ := Root(l)
	path, _ := Path(l, 5)
	link, _ := Link(l, 6)
	keptPath, keptLink := slices.Clone(path), slices.Clone(link)
	path[0], link[0] = "changed", "changed"
	if !slices.Equal(l, elements(11)) {
		t.Fatal("the list shares memory with a proof")
	}
	for range 3 {
		again, _ := Root(l)
		path, _ := Path(l, 5)
		link, _ := Link(l, 6)
		if again != root || !slices.Equal(path, keptPath) || !slices.Equal(link, keptLink) {
			t.Fatal("a call changed the result of another one")
		}
		if !Check(root, 11, 5, l[5], path) || !Extends(rootOfAll(l[:6]), 6, root, 11, link) {
			t.Fatal("a proof is not accepted again")
		}
		if !slices.Equal(path, keptPath) || !slices.Equal(link, keptLink) || !slices.Equal(l, elements(11)) {
			t.Fatal("an argument was changed")
		}
	}
}
