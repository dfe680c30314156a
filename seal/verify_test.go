package seal

import (
	"fmt"
	"math"
	"slices"
	"strings"
	"testing"

	"gazetteer/api"
	"gazetteer/digest"
	"gazetteer/tree"
)

// copyOf returns a seal that shares no memory with another one.
func copyOf(s api.Seal) api.Seal {
	return api.Seal{Index: s.Index, Sig: slices.Clone(s.Sig), Path: slices.Clone(s.Path)}
}

// changed passes lists that differ a little from one: elements changed, left
// out, twice, put elsewhere or added, with some texts in their places.
func changed(l, texts []string, pass func(l []string)) {
	pass(nil)
	for i := range len(l) + 1 {
		pass(l[:i])
		pass(l[i:])
		for _, text := range texts {
			pass(slices.Insert(slices.Clone(l), i, text))
			if i < len(l) {
				pass(slices.Replace(slices.Clone(l), i, i+1, text))
			}
		}
		if i < len(l) {
			pass(slices.Delete(slices.Clone(l), i, i+1))
			pass(append(slices.Clone(l[i:]), l[:i]...))
		}
	}
	turned := slices.Clone(l)
	slices.Reverse(turned)
	pass(turned)
}

// near returns texts that stand near to a seal of the key i of a secret: all of
// its chains at a few places, what the tree has, and what is no digest.
func near(secret string, i int, leaves []string) []string {
	l := slices.Concat(notDigests, leaves)
	for k := range 18 {
		start := specStart(secret, i, k)
		l = append(l, start, digest.Chain(start, 1), digest.Chain(start, 7), digest.Chain(start, 15), digest.Chain(start, 16))
	}
	for n := 1; n <= len(leaves); n *= 2 {
		root, _ := tree.Root(leaves[:n])
		other, _ := tree.Root(leaves[len(leaves)-n:])
		l = append(l, root, other)
	}
	return l
}

// P3.3: a seal that is changed anywhere is refused, unless the change leaves it
// as it is.
func TestChangedSeals(t *testing.T) {
	for height := range 4 {
		leaves := specLeaves("secret", height)
		public, _ := tree.Root(leaves)
		index := len(leaves) * 2 / 3
		s := specSeal("secret", leaves, index, "message")
		test := func(c api.Seal) {
			want := specVerify(public, "message", c)
			if Verify(public, "message", c) != want || want != same(c, s) {
				t.Fatalf("%v of the height %d: not %v", c, height, want)
			}
		}
		texts := near("secret", index, leaves)
		test(s)
		changed(s.Sig, texts, func(l []string) { test(api.Seal{Index: index, Sig: l, Path: s.Path}) })
		changed(s.Path, texts, func(l []string) { test(api.Seal{Index: index, Sig: s.Sig, Path: l}) })
		for other := range 4 * len(leaves) {
			test(api.Seal{Index: other, Sig: s.Sig, Path: s.Path})
			test(api.Seal{Index: other - 4*len(leaves), Sig: s.Sig, Path: s.Path})
			test(api.Seal{Index: other, Sig: s.Sig, Path: append(slices.Clone(s.Path), public)})
		}
	}
}

// P3.3: of all paths of two elements that stand near to the tree, the right one
// is accepted alone.
func TestAllPaths(t *testing.T) {
	leaves := specLeaves("secret", 2)
	public, _ := tree.Root(leaves)
	texts := near("secret", 0, leaves)[len(notDigests):]
	for i := range leaves {
		s := specSeal("secret", leaves, i, "message")
		for _, a := range texts {
			for _, b := range texts {
				right := a == s.Path[0] && b == s.Path[1]
				if Verify(public, "message", api.Seal{Index: i, Sig: s.Sig, Path: []string{a, b}}) != right {
					t.Fatalf("the path %s, %s of %d: not %v", a, b, i, right)
				}
			}
		}
	}
}

// keyFor returns the public key for which everything is right about a seal of a
// message, whatever it is, but for what C3 says of its form.
func keyFor(message string, s api.Seal) string {
	ends := slices.Clone(s.Sig)
	for k, d := range specDigits(message) {
		if k < len(ends) {
			ends[k] = digest.Chain(ends[k], 15-d)
		}
	}
	root, i := tree.Leaf(digest.List(ends)), s.Index
	for _, text := range s.Path {
		if i%2 == 0 {
			root = digest.List([]string{"node", root, text})
		} else {
			root = digest.List([]string{"node", text, root})
		}
		i /= 2
	}
	return root
}

// testForm fails the test if a seal is not accepted as it should for the public
// key that is made for it.
func testForm(t *testing.T, name, message string, s api.Seal, want bool) {
	t.Helper()
	public := keyFor(message, s)
	if Verify(public, message, s) != want || specVerify(public, message, s) != want {
		t.Fatalf("%s: not %v", name, want)
	}
}

// list returns n different digests.
func list(n int) []string {
	var l []string
	for i := range n {
		l = append(l, digest.Sum(fmt.Sprint("element ", i)))
	}
	return l
}

// Nothing but the number of its elements is wrong about these seals.
func TestNumbersOfElements(t *testing.T) {
	for _, message := range messages(t) {
		for n := range 40 {
			testForm(t, fmt.Sprint(n, " texts"), message, api.Seal{Sig: list(n)}, n == 18)
			testForm(t, fmt.Sprint(n, " texts, a path of 3"), message, api.Seal{Index: 5, Sig: list(n), Path: list(3)}, n == 18)
		}
	}
	for n := range 20 {
		for _, i := range []int{0, 1, 1<<n - 1, 1 << n / 2} {
			testForm(t, fmt.Sprint("a path of ", n), "message", api.Seal{Index: i, Sig: list(18), Path: list(n)}, n <= 8 && i < 1<<n)
		}
	}
}

// Nothing but one text, which is no digest, is wrong about these seals; at the
// ends of chains it is compared as it is, elsewhere its digest is.
func TestTextsThatAreNoDigests(t *testing.T) {
	for _, text := range notDigests {
		for _, message := range messages(t) {
			for k := range 18 {
				s := api.Seal{Index: 2, Sig: list(18), Path: list(2)}
				testForm(t, "before", message, s, true)
				s.Sig[k] = text
				testForm(t, fmt.Sprintf("%q in the chain %d", text, k), message, s, false)
			}
		}
		for i := range 8 {
			s := api.Seal{Index: 77, Sig: list(18), Path: list(8)}
			testForm(t, "before", "message", s, true)
			s.Path[i] = text
			testForm(t, fmt.Sprintf("%q in the path", text), "message", s, false)
		}
	}
}

// Nothing but the index is wrong about these seals: with fewer bits, as many as
// the path has elements, it would be right.
func TestIndicesOfSeals(t *testing.T) {
	for height := range 9 {
		n := 1 << height
		for _, i := range []int{0, n / 3, n - 1} {
			s := api.Seal{Index: i, Sig: list(18), Path: list(height)}
			public := keyFor("message", s)
			for _, other := range []int{i, i - n, i + n, i + 2*n, i - 4*n, i + 1<<32, i - 1<<32, i + math.MinInt, ^i, -i, i + 1, i - 1, math.MaxInt} {
				s.Index = other
				if Verify(public, "message", s) != (other == i) {
					t.Errorf("the index %d in place of %d, height %d: not %v", other, i, height, other == i)
				}
			}
		}
	}
}

func TestPublicKeysThatAreNone(t *testing.T) {
	s, _ := Sign("secret", 2, 1, "message")
	public, _ := Public("secret", 2)
	for _, text := range slices.Concat(notDigests, []string{strings.ToUpper(public), public + "0", public[1:], "0" + public, s.Path[0], s.Path[1]}) {
		if Verify(text, "message", s) {
			t.Errorf("accepted for %q", text)
		}
	}
	if !Verify(public, "message", s) {
		t.Error("the seal itself")
	}
}

// P3.4: seals of messages are refused for all other ones.
func TestOtherMessages(t *testing.T) {
	leaves := specLeaves("secret", 2)
	public, _ := tree.Root(leaves)
	all := append(messages(t), "message ", "Message", "messag", "message\x00", "x", digest.Sum("message"))
	for i := range leaves {
		for _, a := range all {
			s := specSeal("secret", leaves, i, a)
			for _, b := range all {
				if Verify(public, b, s) != (a == b) {
					t.Fatalf("the seal of %q for %q: not %v", a, b, a == b)
				}
			}
		}
	}
}

// P3.4: where another message has greater digits, anyone can go on in the
// chains of a seal, but not in those of the checksum, which is less.
func TestForgedSeals(t *testing.T) {
	leaves := specLeaves("secret", 1)
	public, _ := tree.Root(leaves)
	for _, from := range []string{"0000000000000000", "0123456789abcdef", "eeeeeeeeeeeeeeee", "efffffffffffffff", "7777777777777770"} {
		a := messageWith(t, from, "")
		s, _ := Sign("secret", 1, 1, a)
		for place := range 16 {
			for _, digit := range "0123456789abcdef" {
				to := from[:place] + string(digit) + from[place+1:]
				b := messageWith(t, to, "")
				forged := forge(s, a, b)
				if Verify(public, b, forged) != (from == to) {
					t.Fatalf("a seal of %s, made one of %s: not %v", from, to, from == to)
				}
			}
		}
		b := messageWith(t, "ffffffffffffffff", "")
		if Verify(public, b, forge(s, a, b)) {
			t.Fatalf("a seal of %s, made one of the greatest digits", from)
		}
	}
}

// forge returns a seal of a, changed to one of b as far as anyone can do that:
// chains only go on.
func forge(s api.Seal, a, b string) api.Seal {
	s = copyOf(s)
	from, to := specDigits(a), specDigits(b)
	for k := range s.Sig {
		s.Sig[k] = digest.Chain(s.Sig[k], to[k]-from[k])
	}
	return s
}

// Only the digest of a message is signed: messages that have the same one, as
// these were made to, have the same seals.
func TestMessagesOfOneDigest(t *testing.T) {
	public, _ := Public("secret", 1)
	for _, d := range []string{"0123456789abcdef", "0000000000000000", "ffffffffffffffff"} {
		first := messageWith(t, d, "")
		s, _ := Sign("secret", 1, 1, first)
		for _, begin := range []string{"messages", "\x00\x00\x00\x00\x00\x00\x00\x00"} {
			other := messageWith(t, d, begin)
			again, err := Sign("secret", 1, 1, other)
			if other == first || !same(s, again) || err != api.OK || !Verify(public, other, s) {
				t.Errorf("%q and %q with the digest %s", first, other, d)
			}
		}
	}
}

// P3.5: seals of secrets are refused for the public keys of all other ones, and
// those of a height for the public keys of other heights.
func TestOtherSecrets(t *testing.T) {
	type owner struct {
		secret string
		height int
	}
	seals, publics := map[owner]api.Seal{}, map[owner]string{}
	for _, secret := range secrets {
		for height := range 4 {
			o := owner{secret, height}
			s, err := Sign(secret, height, 0, "message")
			public, _ := Public(secret, height)
			if err != api.OK {
				t.Fatal(err)
			}
			seals[o], publics[o] = s, public
		}
	}
	for a, s := range seals {
		for b, public := range publics {
			if Verify(public, "message", s) != (a == b) {
				t.Errorf("the seal of %v for %v: not %v", a, b, a == b)
			}
		}
	}
}

// Chains have different starts for all secrets, keys and chains: what stands
// between them tells where each of them ends.
func TestStartsStayApart(t *testing.T) {
	seen := map[string]string{}
	message := messageWith(t, "0000000000000000", "") // its seal shows the starts
	for _, secret := range secrets {
		for index := range 16 {
			s, err := Sign(secret, 4, index, message)
			if err != api.OK {
				t.Fatal(err)
			}
			for k := range 16 {
				name := fmt.Sprintf("%q %d %d", secret, index, k)
				if other, ok := seen[s.Sig[k]]; ok {
					t.Errorf("%s and %s have one start", name, other)
				}
				seen[s.Sig[k]] = name
			}
		}
	}
}

// P1: all arguments have an answer.
func TestStrangeSeals(t *testing.T) {
	numbers := []int{math.MinInt, math.MinInt + 1, -1 << 32, -1, 0, 1, 255, 256, 1 << 31, 1 << 62, math.MaxInt}
	many := slices.Repeat(list(1), 1<<20)
	lists := [][]string{nil, {}, {""}, list(1), list(17), list(18), list(19), slices.Repeat([]string{"\xff"}, 18), many}
	for _, index := range numbers {
		for _, sig := range lists {
			for _, path := range lists {
				s := api.Seal{Index: index, Sig: sig, Path: path}
				if Verify("", "", s) || Verify(list(1)[0], "\xff", s) {
					t.Errorf("%d, %d texts and a path of %d", index, len(sig), len(path))
				}
			}
		}
	}
	if public, _ := Public("", 0); Verify(public, "", api.Seal{}) {
		t.Error("the zero seal")
	}
}

// P3: a seal that was refused is as it was, too.
func TestVerifyLeavesSeals(t *testing.T) {
	public, _ := Public("secret", 2)
	for _, message := range []string{"message", "other"} {
		s, _ := Sign("secret", 2, 3, "message")
		kept := copyOf(s)
		for range 3 {
			if Verify(public, message, s) != (message == "message") || !same(s, kept) {
				t.Fatalf("the seal for %q", message)
			}
		}
	}
}
