package digest

import (
	"fmt"
	"math"
	"slices"
	"strings"
	"testing"
)

// The expected digests were computed by a separate program, written from the
// chapter alone.

func TestSumOfKnownTexts(t *testing.T) {
	for _, test := range []struct{ text, want string }{
		{"", "c07df3881ce0557b"},
		{"\x00", "01462f3e68f2b289"},
		{"a", "06b3c3772a5be714"},
		{"abc", "6ef9207b5e254b62"},
		{"abcdefg", "f489f40988da3f8e"},
		{"abcdefgh", "9f07412f9eaaa465"},
		{"abcdefgh\x00", "4914f60bafbe472c"},
		{"abcdefghi", "8390f19b50597037"},
		{"0123456789abcdef", "8aa27db87733c309"},
		{"\xff\xff\xff\xff\xff\xff\xff\xff", "e21f57d86e7a0222"},
		{"\x80\xc3(", "b00fc131bdc41ed4"}, // not valid UTF-8
		{"464", "00a3cb26b6237c1f"},       // leading zeros stay
		{"The quick brown fox jumps over the lazy dog", "70e6a99eed1baa2b"},
	} {
		if got := Sum(test.text); got != test.want {
			t.Errorf("Sum(%q) = %s, want %s", test.text, got, test.want)
		}
	}
}

func TestListOfKnownLists(t *testing.T) {
	for _, test := range []struct {
		list       []string
		text, want string
	}{
		{nil, "", "c07df3881ce0557b"},
		{[]string{}, "", "c07df3881ce0557b"},
		{[]string{""}, "0:", "e82844ce6662f10f"},
		{[]string{"", ""}, "0:0:", "fc8c9eb28adb0ae0"},
		{[]string{"a", "bc"}, "1:a2:bc", "9849a6764281b921"},
		{[]string{"a2:bc"}, "5:a2:bc", "c894cc2a3386014e"},
		{[]string{"0123456789"}, "10:0123456789", "8f7e45da16c7c964"},
		{[]string{strings.Repeat("x", 100), "", "y"}, "100:" + strings.Repeat("x", 100) + "0:1:y", "5bfdefcc0f9449ba"},
	} {
		if got := List(test.list); got != test.want || got != Sum(test.text) {
			t.Errorf("List(%q) = %s, want %s", test.list, got, test.want)
		}
	}
}

// The length of an element is its number of bytes, not of its letters.
func TestListCountsBytes(t *testing.T) {
	if List([]string{"\u00e4\u20ac"}) != Sum("5:\u00e4\u20ac") {
		t.Error("an element of two letters and five bytes")
	}
}

func TestChainOfKnownTexts(t *testing.T) {
	for _, test := range []struct {
		n    int
		want string
	}{
		{math.MinInt, "x"},
		{-1, "x"},
		{0, "x"},
		{1, "b70a5433278e8791"},
		{2, "b9f917c6af6c7f80"},
		{1000, "99421f31786b3c8f"},
		{1001, "99421f31786b3c8f"},
		{math.MaxInt, "99421f31786b3c8f"},
	} {
		if got := Chain("x", test.n); got != test.want {
			t.Errorf("Chain(x, %d) = %s, want %s", test.n, got, test.want)
		}
	}
	if Chain("", 0) != "" || Chain("", 1) != Sum("") {
		t.Error("the empty text")
	}
}

func TestIs(t *testing.T) {
	for _, test := range []struct {
		text string
		want bool
	}{
		{"0123456789abcdef", true},
		{"ffffffffffffffff", true},
		{"0000000000000000", true},
		{"", false},
		{"0123456789abcde", false},
		{"0123456789abcdef0", false},
		{"0123456789abcdeF", false},
		{"0123456789abcdef\n", false},
		{"\u00e4\u00e4\u00e4\u00e4\u00e4\u00e4\u00e4\u00e4", false},
	} {
		if Is(test.text) != test.want {
			t.Errorf("Is(%q) is not %v", test.text, test.want)
		}
	}
}

// Each byte is tried in each place.
func TestIsOfEachByte(t *testing.T) {
	for place := range 16 {
		for b := range 256 {
			text := []byte("0123456789abcdef")
			text[place] = byte(b)
			want := b >= '0' && b <= '9' || b >= 'a' && b <= 'f'
			if Is(string(text)) != want {
				t.Errorf("byte %d in place %d: not %v", b, place, want)
			}
		}
	}
}

// looksLikeDigest does not use Is, which is under test too.
func looksLikeDigest(text string) bool {
	return len(text) == 16 && strings.Trim(text, "0123456789abcdef") == ""
}

func TestResultsAreDigests(t *testing.T) {
	for n := range 3000 {
		text := strings.Repeat("\xff", n%40) + fmt.Sprint(n)
		for _, got := range []string{Sum(text), List([]string{text, ""}), Chain(text, 1+n%3)} {
			if !looksLikeDigest(got) || !Is(got) {
				t.Fatalf("%q has %q", text, got)
			}
		}
	}
}

// uniq fails the test if two texts that were given to it have one digest.
func uniq(t *testing.T) func(text, digest string) {
	seen := map[string]string{}
	return func(text, digest string) {
		t.Helper()
		if other, ok := seen[digest]; ok && other != text {
			t.Fatalf("%q and %q have the digest %s", text, other, digest)
		}
		seen[digest] = text
	}
}

func TestShortTextsStayApart(t *testing.T) {
	add := uniq(t)
	add("", Sum(""))
	for a := range 256 {
		add(string([]byte{byte(a)}), Sum(string([]byte{byte(a)})))
		for b := range 256 {
			text := string([]byte{byte(a), byte(b)})
			add(text, Sum(text))
		}
	}
	for length := 3; length <= 7; length++ {
		for n := range 20000 {
			text := shortText(length, n)
			add(text, Sum(text))
		}
	}
}

// shortText returns text n of those of a length: its bytes are spread over all
// values, and many end with bytes 0, which are what padding consists of.
func shortText(length, n int) string {
	text := make([]byte, length)
	for i := range length {
		text[i] = byte(n * (i*i + 1) >> (i * (n & 3)))
	}
	return string(text)
}

// Texts that differ only in the bytes 0 at their end have equal blocks.
func TestZerosAtTheEndStayApart(t *testing.T) {
	for _, first := range []string{"", "a", "\x00\x01", "abcdefgh"} {
		add := uniq(t)
		for zeros := range 8 {
			text := first + strings.Repeat("\x00", zeros)
			add(text, Sum(text))
		}
	}
}

func TestTextsThatDifferInOneBlockStayApart(t *testing.T) {
	for _, length := range []int{1, 7, 8, 9, 16, 23, 24, 64, 100} {
		text := []byte(strings.Repeat("gazetteer", 12)[:length])
		for block := 0; block < length; block += 8 {
			part := text[block:min(block+8, length)]
			testPart(t, text, part)
		}
	}
}

// testPart fails the test if two texts that differ only in a part, which is
// changed byte by byte and then as a whole, have one digest.
func testPart(t *testing.T, text, part []byte) {
	t.Helper()
	kept := slices.Clone(part)
	add := uniq(t)
	for i := range part {
		for b := range 256 {
			part[i] = byte(b)
			add(string(text), Sum(string(text)))
		}
		part[i] = kept[i]
	}
	for n := range 500 {
		copy(part, shortText(7, n))
		add(string(text), Sum(string(text)))
	}
	copy(part, kept)
}

func TestChainOfChain(t *testing.T) {
	for _, text := range []string{"", "x", "0123456789abcdef", "\xff\x00"} {
		for _, sum := range []int{0, 1, 2, 16, 999, 1000} {
			for _, n := range []int{0, 1, 2, 15, sum / 2, sum} {
				if n <= sum && Chain(Chain(text, n), sum-n) != Chain(text, sum) {
					t.Errorf("%q: %d and then %d", text, n, sum-n)
				}
			}
		}
	}
}

// allLists passes all lists of up to 3 elements from a few that are made to be
// confused with lengths and colons.
func allLists(pass func(l []string)) {
	elements := []string{"", "a", "0", ":", "0:", "1:", "1:a", "0:0:", "a1:", "10", "0123456789"}
	pass(nil)
	for _, a := range elements {
		pass([]string{a})
		for _, b := range elements {
			pass([]string{a, b})
			for _, c := range elements {
				pass([]string{a, b, c})
			}
		}
	}
}

func TestListsStayApart(t *testing.T) {
	lists := map[string][]string{}
	add := uniq(t)
	allLists(func(l []string) {
		text := joined(l)
		if other, ok := lists[text]; ok {
			t.Fatalf("%q and %q have the joined text %q", l, other, text)
		}
		lists[text] = l
		if len(text) <= 7 {
			add(text, List(l))
		}
	})
}

// The joined texts of these lists have the same length, and differ within 8
// bytes, the first of which stands at a multiple of 8.
func TestListsThatDifferInOneBlockStayApart(t *testing.T) {
	add := uniq(t)
	for n := range 1000 {
		for _, l := range [][]string{{"abcdef", fmt.Sprintf("%06d", n), "end"}, {"abcdef", fmt.Sprintf("%03d", n), fmt.Sprintf("%d", n%10), "end"}} {
			add(joined(l), List(l))
		}
	}
}

// P3: what is returned depends on the arguments alone, and leaves them alone.
func TestIndependence(t *testing.T) {
	list := []string{"b", "", "a"}
	sum, of, chain := Sum("text"), List(list), Chain("text", 5)
	for range 3 {
		Sum("other")
		List([]string{"other"})
		Chain("other", 7)
		if Sum("text") != sum || List(list) != of || Chain("text", 5) != chain {
			t.Fatal("a call changed the result of another one")
		}
	}
	if !slices.Equal(list, []string{"b", "", "a"}) {
		t.Error("the list was changed")
	}
}

// P1: long texts and lists end too.
func TestLongTexts(t *testing.T) {
	for _, length := range []int{1<<16 - 1, 1 << 16, 1 << 20} {
		text := strings.Repeat("x", length)
		if !Is(Sum(text)) || !Is(Chain(text, 2)) || Sum(text) == Sum(text[1:]) {
			t.Errorf("%d bytes", length)
		}
	}
	if !Is(List(make([]string, 1<<16))) {
		t.Error("a long list")
	}
}
