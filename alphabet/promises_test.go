package alphabet

import (
	"math"
	"math/rand"
	"slices"
	"strings"
	"sync"
	"testing"

	"gazetteer/api"
)

// someValid passes valid alphabets: the known ones, all of up to three letters of
// two bytes, and random ones of up to 64 letters.
func someValid(t *testing.T, pass func(row *rand.Rand, a api.Alphabet)) {
	t.Helper()
	row := rand.New(rand.NewSource(7))
	count := 0
	one := func(row *rand.Rand, a api.Alphabet) {
		if specValid(a) {
			count++
			pass(row, a)
		}
	}
	for _, x := range valids {
		one(row, x.a)
	}
	subsets(textsOf(1, 3, "ab"), 3, func(letters []string) {
		a := plain(letters...)
		for i := range a.Small {
			a.Small[i] = len(letters) - 1
		}
		one(row, a)
	})
	random(11, 200, one)
	if count < 1000 {
		t.Errorf("only %v valid alphabets", count)
	}
}

// someTexts returns texts, some of which are words of an alphabet.
func someTexts(row *rand.Rand, a api.Alphabet) []string {
	var list []string
	short := textsOf(0, 3, "ab?")
	for range 20 {
		list = append(list, textFor(row, a), short[row.Intn(len(short))])
	}
	return list
}

// letters returns so many random indices of letters of an alphabet.
func letters(row *rand.Rand, a api.Alphabet, count int) []int {
	l := make([]int, count)
	for i := range l {
		l[i] = row.Intn(len(a.Letters))
	}
	return l
}

// word returns the word of some indices, and fails the test if there is none.
func word(t *testing.T, a api.Alphabet, letters []int) string {
	t.Helper()
	text, err := Join(a, letters)
	if err != api.OK {
		t.Fatalf("%v: %v has no word: %v", a, letters, err)
	}
	return text
}

// read returns the letters of a word, and fails the test if it is none.
func read(t *testing.T, a api.Alphabet, text string) []int {
	t.Helper()
	l, err, at := Read(a, text)
	if err != api.OK || at != 0 || len(l) < 1 || len(l) > 24 {
		t.Fatalf("%v: %q is no word: %v, %v, %v", a, text, l, err, at)
	}
	return l
}

// P10.2
func TestReading(t *testing.T) {
	someValid(t, func(row *rand.Rand, a api.Alphabet) {
		for _, count := range []int{1, 2, 3, 7, 23, 24} {
			text := word(t, a, letters(row, a, count))
			rest := text
			for _, i := range read(t, a, text) {
				if !strings.HasPrefix(rest, a.Letters[i]) {
					t.Fatalf("%v: %q does not go on with %q", a, rest, a.Letters[i])
				}
				for _, longer := range a.Letters {
					if len(longer) > len(a.Letters[i]) && strings.HasPrefix(rest, longer) {
						t.Fatalf("%v: %q is longer than %q at %q", a, longer, a.Letters[i], rest)
					}
				}
				rest = rest[len(a.Letters[i]):]
			}
			if rest != "" {
				t.Fatalf("%v: %q of %q is not read", a, rest, text)
			}
		}
	})
}

// P10.2: what is read of any text, whether it was joined or not.
func TestReadingOfAnyText(t *testing.T) {
	words := 0
	someValid(t, func(row *rand.Rand, a api.Alphabet) {
		for _, text := range someTexts(row, a) {
			l, err, _ := Read(a, text)
			if err == api.OK && word(t, a, l) != text {
				t.Fatalf("%v: %q is read as %v", a, text, l)
			}
			if err == api.OK {
				words++
			}
		}
	})
	if words < 10000 {
		t.Errorf("only %v words", words)
	}
}

// P10.3
func TestJoining(t *testing.T) {
	someValid(t, func(row *rand.Rand, a api.Alphabet) {
		for _, count := range []int{1, 2, 3, 4, 12, 23, 24} {
			l := letters(row, a, count)
			if got := read(t, a, word(t, a, l)); !slices.Equal(got, l) {
				t.Fatalf("%v: %v is read as %v", a, l, got)
			}
		}
	})
}

// P10.3: all words of up to four letters of small alphabets are different, and read
// as what they were joined from; of others all words of up to two letters.
func TestDifferentWords(t *testing.T) {
	someValid(t, func(row *rand.Rand, a api.Alphabet) {
		seen := map[string][]int{}
		most := 4
		if len(a.Letters) > 3 {
			most = 2
		}
		if len(a.Letters) > 10 && row.Intn(10) > 0 {
			most = 1
		}
		sequences(most, len(a.Letters), func(l []int) {
			if len(l) == 0 {
				return
			}
			text := word(t, a, l)
			if other, is := seen[text]; is {
				t.Fatalf("%v: %q is the word of %v and of %v", a, text, l, other)
			}
			seen[text] = l
			if got := read(t, a, text); !slices.Equal(got, l) {
				t.Fatalf("%v: %v is read as %v", a, l, got)
			}
		})
	})
}

// P10.4
func TestFolding(t *testing.T) {
	changed := 0
	someValid(t, func(row *rand.Rand, a api.Alphabet) {
		for _, count := range []int{1, 2, 3, 12, 24} {
			l := letters(row, a, count)
			text := word(t, a, l)
			small, err := Fold(a, text)
			if err != api.OK {
				t.Fatalf("%v: %q is not folded: %v", a, text, err)
			}
			got := read(t, a, small)
			if len(got) != count {
				t.Fatalf("%v: %v letters are folded to %v", a, count, len(got))
			}
			for n, i := range got {
				if i != a.Small[l[n]] {
					t.Fatalf("%v: %v of %v is folded to %v", a, l[n], l, i)
				}
			}
			if again, err := Fold(a, small); again != small || err != api.OK {
				t.Fatalf("%v: %q, folded again: %q, %v", a, small, again, err)
			}
			if small != text {
				changed++
			}
		}
	})
	if changed < 1000 {
		t.Errorf("only %v words have other letters", changed)
	}
}

// P10.4: what is no word is not folded, and what is one is.
func TestFoldingOfAnyText(t *testing.T) {
	refused := 0
	someValid(t, func(row *rand.Rand, a api.Alphabet) {
		for _, text := range someTexts(row, a) {
			_, err, _ := Read(a, text)
			small, fold := Fold(a, text)
			if (fold == api.OK) != (err == api.OK) || fold != api.OK && (fold != api.ErrArg || small != "") {
				t.Fatalf("%v: %q is folded to %q, %v, and read with %v", a, text, small, fold, err)
			}
			if fold != api.OK {
				refused++
			}
		}
	})
	if refused < 10000 {
		t.Errorf("only %v texts are refused", refused)
	}
}

// P10.5
func TestErrors(t *testing.T) {
	count := map[api.Errno]int{}
	someValid(t, func(row *rand.Rand, a api.Alphabet) {
		for range 20 {
			text := textFor(row, a)
			if row.Intn(3) == 0 {
				text += strings.Repeat(a.Letters[0], 24)
			}
			_, err, at := Read(a, text)
			if err != api.ErrChar && err != api.ErrLimit {
				continue
			}
			count[err]++
			if at < 0 || at >= len(text) {
				t.Fatalf("%v: %q has the error %v at %v", a, text, err, at)
			}
			before, err2, at2 := Read(a, text[:at])
			if at > 0 && (err2 != api.OK || at2 != 0) {
				t.Fatalf("%v: %q has the error %v at %v, before that %v at %v", a, text, err, at, err2, at2)
			}
			if err == api.ErrLimit && len(before) != 24 {
				t.Fatalf("%v: %q has %v letters before %v", a, text, len(before), at)
			}
			if i := specTake(a.Letters, text[at:]); (i < 0) != (err == api.ErrChar) {
				t.Fatalf("%v: %q has the error %v at %v", a, text, err, at)
			}
		}
	})
	if count[api.ErrChar] < 1000 || count[api.ErrLimit] < 1000 {
		t.Errorf("%v", count)
	}
}

// P10.6
func TestParts(t *testing.T) {
	someValid(t, func(row *rand.Rand, a api.Alphabet) {
		for range 12 {
			first, second := letters(row, a, 1+row.Intn(14)), letters(row, a, 1+row.Intn(14))
			testParts(t, a, first, second)
		}
		testParts(t, a, letters(row, a, 12), letters(row, a, 12))
		testParts(t, a, letters(row, a, 1), letters(row, a, 23))
		testParts(t, a, letters(row, a, 1), letters(row, a, 24))
		testParts(t, a, letters(row, a, 24), letters(row, a, 1))
	})
}

// testParts checks that two words, one after the other, are read as both, if they
// are not too long together.
func testParts(t *testing.T, a api.Alphabet, first, second []int) {
	t.Helper()
	text := word(t, a, first) + word(t, a, second)
	both := slices.Concat(first, second)
	got, err, at := Read(a, text)
	if len(both) <= 24 && (!slices.Equal(got, both) || err != api.OK || at != 0) {
		t.Fatalf("%v: %v and %v are read as %v, %v, %v", a, first, second, got, err, at)
	}
	if len(both) > 24 && (len(got) != 0 || err != api.ErrLimit || at != len(word(t, a, both[:24]))) {
		t.Fatalf("%v: %v and %v are read as %v, %v, %v", a, first, second, got, err, at)
	}
}

// P10.7
func TestFewerLetters(t *testing.T) {
	kept := 0
	someValid(t, func(row *rand.Rand, a api.Alphabet) {
		for n := len(a.Letters) - 1; n > 0; n-- {
			if slices.Contains(a.Small[:n], n) {
				break
			}
			a.Letters, a.Small = a.Letters[:n], a.Small[:n]
			if !Valid(a) {
				t.Fatalf("%v: not valid without its last letters", a)
			}
			kept++
		}
	})
	if kept < 8000 {
		t.Errorf("only %v alphabets", kept)
	}
}

// P10.7: without a last letter that is the small letter of another one, or the only
// letter, an alphabet is not valid.
func TestFewerLettersThanNeeded(t *testing.T) {
	a := folded("A", 1, "a", 1)
	refused(t, "A without a", api.Alphabet{Name: a.Name, Letters: a.Letters[:1], Small: a.Small[:1]})
	refused(t, "nothing", api.Alphabet{Name: a.Name, Letters: a.Letters[:0], Small: a.Small[:0]})
}

// P10.8
func TestBytesOfAllLetters(t *testing.T) {
	row := rand.New(rand.NewSource(8))
	for size := 1; size <= 3; size++ {
		all := textsOf(size, size, "!#09Az~\x7fa\"")
		for n := range 2000 {
			a := chosen(row, all, 64)
			if n%2 == 0 {
				a = plain(a.Letters...)
			}
			if got := Valid(a); got != specFormed(a) {
				t.Fatalf("%v: %v", a, got)
			}
		}
		all = textsOf(size, size, "abcdefgh")
		for range 1000 {
			if a := chosen(row, all, 64); !Valid(a) {
				t.Fatalf("%v: not valid", a)
			}
		}
	}
	subsets(textsOf(2, 2, "abc"), 9, func(letters []string) {
		if !Valid(plain(letters...)) {
			t.Fatalf("%v: not valid", letters)
		}
	})
	subsets(textsOf(3, 3, "ab"), 8, func(letters []string) {
		if !Valid(plain(letters...)) {
			t.Fatalf("%v: not valid", letters)
		}
	})
}

// strange returns alphabets that are as large, or as wrong, as they can be.
func strange() []api.Alphabet {
	long := strings.Repeat("a", 1<<22)
	list := []api.Alphabet{
		{}, {Name: "x"}, {Name: long}, {Name: "x", Letters: []string{long}, Small: []int{0}},
		{Name: "x", Letters: []string{"a", long}, Small: []int{0, 1}},
		{Name: "x", Letters: make([]string, 1<<20), Small: make([]int, 1<<20)},
		{Name: "x", Letters: make([]string, 64), Small: make([]int, 64)},
		{Name: "x", Letters: []string{"a"}, Small: make([]int, 1<<20)},
		{Name: "x", Letters: nil, Small: []int{0}}, {Name: "x", Letters: []string{"a"}, Small: nil},
		{Name: "\xff\xfe", Letters: []string{"\xff"}, Small: []int{0}},
		plain(strings.Split(strings.Repeat("a,", 63)+"a", ",")...), plain("", "a"), plain("a", ""), plain("", ""),
		plain(longer()...), plain(append(longer()[:63], "aa")...), plain(append(longer()[:63], "Q")...),
	}
	for _, s := range []int{math.MinInt, math.MaxInt, -1, 1, 1 << 40} {
		list = append(list, api.Alphabet{Name: "x", Letters: []string{"a"}, Small: []int{s}})
	}
	return list
}

// P1: nothing panics, or goes on without an end, and with an error there is nothing
// else but an offset.
func TestStrangeArguments(t *testing.T) {
	texts := []string{"", "a", "\x00", "\xff\xfe", strings.Repeat("a", 1<<22), strings.Repeat("aBP", 9), strings.Repeat("?", 1<<22), strings.Repeat("\u00e4", 1<<20)}
	lists := [][]int{nil, {math.MinInt}, {math.MaxInt}, {0, -1}, make([]int, 1<<20), slices.Repeat([]int{math.MaxInt}, 24)}
	for _, a := range strange() {
		valid := Valid(a)
		if valid != specValid(a) {
			t.Errorf("%v letters: %v", len(a.Letters), valid)
		}
		for _, text := range texts {
			l, err, at := Read(a, text)
			if (err == api.OK) != (len(l) > 0) || at < 0 || at > 0 && err != api.ErrChar && err != api.ErrLimit || (err == api.ErrArg) == valid {
				t.Errorf("%.20q is read as %v, %v, %v", text, l, err, at)
			}
			if small, fold := Fold(a, text); (fold == api.OK) != (err == api.OK) || (fold == api.OK) != (small != "") {
				t.Errorf("%.20q is folded to %q, %v", text, small, fold)
			}
		}
		for _, l := range lists {
			if text, err := Join(a, l); text != "" || err != api.ErrArg {
				t.Errorf("%v indices are joined to %q, %v", len(l), text, err)
			}
		}
	}
}

// P3 and the rules: equal arguments have equal results, also for other memory, after
// other calls and at the same time; nothing that is passed is changed or kept.
func TestIndependence(t *testing.T) {
	same := func(a api.Alphabet) api.Alphabet {
		return api.Alphabet{Name: strings.Clone(a.Name), Letters: slices.Clone(a.Letters), Small: slices.Clone(a.Small)}
	}
	someValid(t, func(row *rand.Rand, a api.Alphabet) {
		l := letters(row, a, 1+row.Intn(24))
		kept, given := same(a), slices.Clone(l)
		text := word(t, a, l)
		first := read(t, a, text)
		small, _ := Fold(a, text)
		for i := range first {
			first[i] = -1 // a result that was changed
		}
		for range 3 {
			b := same(kept)
			again := read(t, b, text)
			other, err := Fold(b, text)
			if !slices.Equal(again, given) || word(t, b, given) != text || other != small || err != api.OK || !Valid(b) {
				t.Fatalf("%v: other results for %q", a, text)
			}
			Read(sample(), "abaAc")
			Fold(sample(), "ACab")
		}
		if a.Name != kept.Name || !slices.Equal(a.Letters, kept.Letters) || !slices.Equal(a.Small, kept.Small) || !slices.Equal(l, given) {
			t.Fatalf("%v: arguments were changed to %v, %v", kept, a, l)
		}
	})
}

// P3: calls at the same time do not disturb each other.
func TestSameTime(t *testing.T) {
	a := sample()
	var group sync.WaitGroup
	wrong := make([]int, 8)
	for n := range wrong {
		group.Add(1)
		go func() {
			defer group.Done()
			for range 500 {
				l, err, _ := Read(a, "abaAc")
				text, err2 := Join(a, []int{4, n % 5})
				small, err3 := Fold(a, "ACab")
				if !slices.Equal(l, []int{1, 0, 3, 2}) || err != api.OK || text != "C"+a.Letters[n%5] || err2 != api.OK || small != "acab" || err3 != api.OK || !Valid(a) {
					wrong[n]++
				}
			}
		}()
	}
	group.Wait()
	if slices.Max(wrong) > 0 {
		t.Errorf("%v calls had other results", wrong)
	}
}
