package seal

import (
	"encoding/binary"
	"fmt"
	"strconv"
	"testing"

	"gazetteer/api"
	"gazetteer/digest"
	"gazetteer/tree"
)

// The chapter's words written down once more, as directly as possible, from
// the layers below alone. Nothing here is taken from the code under test.

// specDigits returns the digits of a message.
func specDigits(message string) []int {
	var l []int
	sum := 0
	for _, c := range digest.Sum(message) {
		d, _ := strconv.ParseInt(string(c), 16, 0)
		l = append(l, int(d))
		sum += 15 - int(d)
	}
	for _, c := range fmt.Sprintf("%02x", sum) {
		d, _ := strconv.ParseInt(string(c), 16, 0)
		l = append(l, int(d))
	}
	return l
}

// specStart returns the start of the chain k of the key i of a secret.
func specStart(secret string, i, k int) string {
	return digest.List([]string{secret, fmt.Sprint(i), fmt.Sprint(k)})
}

// specEnds returns the ends of the chains of the key i of a secret.
func specEnds(secret string, i int) []string {
	var l []string
	for k := 0; k <= 17; k++ {
		l = append(l, digest.Chain(specStart(secret, i, k), 15))
	}
	return l
}

// specLeaves returns what the tree of a secret has for its one-time keys.
func specLeaves(secret string, height int) []string {
	size := []int{1, 2, 4, 8, 16, 32, 64, 128, 256}[height]
	var l []string
	for i := 0; i < size; i++ {
		l = append(l, tree.Leaf(digest.List(specEnds(secret, i))))
	}
	return l
}

// specSeal returns the seal of a message by the key i of a secret with these
// leaves.
func specSeal(secret string, leaves []string, i int, message string) api.Seal {
	s := api.Seal{Index: i}
	for k, d := range specDigits(message) {
		s.Sig = append(s.Sig, digest.Chain(specStart(secret, i, k), d))
	}
	s.Path, _ = tree.Path(leaves, i)
	return s
}

// specVerify is what C3 says of Verify.
func specVerify(public, message string, s api.Seal) bool {
	if len(s.Sig) != 18 || len(s.Path) > 8 {
		return false
	}
	for _, text := range append(append([]string{}, s.Sig...), s.Path...) {
		if !digest.Is(text) {
			return false
		}
	}
	size := []int{1, 2, 4, 8, 16, 32, 64, 128, 256}[len(s.Path)]
	if s.Index < 0 || s.Index > size-1 {
		return false
	}
	var l []string
	for k, d := range specDigits(message) {
		l = append(l, digest.Chain(s.Sig[k], 15-d))
	}
	return tree.Check(public, size, s.Index, tree.Leaf(digest.List(l)), s.Path)
}

// To mix a number can be undone, and so can the digest of a text, block by
// block: there are messages for all digests.

// unshift returns the x for which x xor (x >> by) is y, for a by of at least 22.
func unshift(y uint64, by int) uint64 {
	return y ^ y>>by ^ y>>(2*by)
}

// inverse returns the number that times an odd one is 1.
func inverse(odd uint64) uint64 {
	x := odd
	for range 6 { // each time twice as many bits are right
		x *= 2 - odd*x
	}
	return x
}

func unmix(y uint64) uint64 {
	y = unshift(y, 33) * inverse(15074714826142052245)
	y = unshift(y, 27) * inverse(11400714819323198485)
	return unshift(y, 31)
}

// messageWith returns a message with this digest; other beginnings, of 8 bytes
// each, have other messages.
func messageWith(t *testing.T, want, begin string) string {
	t.Helper()
	state, err := strconv.ParseUint(want, 16, 64)
	if err != nil {
		t.Fatal(err)
	}
	state = unmix(unmix(state))
	before := uint64(7640891576956012809) ^ uint64(len(begin)+8)
	if begin != "" {
		before = mixed(before ^ binary.BigEndian.Uint64([]byte(begin)))
	}
	message := string(binary.BigEndian.AppendUint64([]byte(begin), state^before))
	if digest.Sum(message) != want {
		t.Fatalf("the message %q does not have the digest %s", message, want)
	}
	return message
}

func mixed(x uint64) uint64 {
	x = (x ^ x>>31) * 11400714819323198485
	x = (x ^ x>>27) * 15074714826142052245
	return x ^ x>>33
}

// messages returns messages of different digests, those at the ends of the
// chains and of their checksum among them.
func messages(t *testing.T) []string {
	t.Helper()
	l := []string{"", "message", "\xff\x00", "another message, which is longer than the other ones"}
	for _, d := range []string{"0000000000000000", "ffffffffffffffff", "0123456789abcdef", "fedcba9876543210", "8000000000000000", "0000000000000001", "ffffffffffffffef", "efffffffffffffff"} {
		l = append(l, messageWith(t, d, ""))
	}
	return l
}

// secrets are texts that are made to be confused with each other, with numbers
// of keys and chains, and with what is put between them.
var secrets = []string{"", "secret", "0", "1", "1:1", "s", "s1", "s11", "\xff\x00"}

// notDigests are texts that are nearly digests.
var notDigests = []string{"", "x", "0123456789abcde", "0123456789abcdef0", "0123456789ABCDEF", "0123456789abcdeg", " 123456789abcdef"}
