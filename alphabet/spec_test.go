package alphabet

import (
	"math/rand"
	"regexp"
	"slices"
	"strings"
	"testing"

	"gazetteer/api"
)

// The chapter's words written down once more, as directly as possible. Nothing
// here is taken from the code under test, nor from the layers below it.

var (
	specName   = regexp.MustCompile(`^[A-Za-z][A-Za-z0-9_]{0,23}$`)
	specLetter = regexp.MustCompile(`^[!#-~]{1,3}$`)
)

// specFormed is what the chapter says of formed alphabets.
func specFormed(a api.Alphabet) bool {
	n := len(a.Letters)
	if !specName.MatchString(a.Name) || n < 1 || n > 64 || len(a.Small) != n {
		return false
	}
	for i, letter := range a.Letters {
		s := a.Small[i]
		if !specLetter.MatchString(letter) || slices.Index(a.Letters, letter) != i || s < 0 || s >= n {
			return false
		}
	}
	for _, s := range a.Small {
		if a.Small[s] != s {
			return false
		}
	}
	return true
}

// specTake returns the longest letter with which a text begins, or -1.
func specTake(letters []string, text string) int {
	best := -1
	for i, letter := range letters {
		if strings.HasPrefix(text, letter) && (best < 0 || len(letter) > len(letters[best])) {
			best = i
		}
	}
	return best
}

// specTaken returns the letters as which a text is read, and what is left where no
// letter begins.
func specTaken(letters []string, text string) ([]int, string) {
	var taken []int
	for i := specTake(letters, text); i >= 0; i = specTake(letters, text) {
		taken, text = append(taken, i), text[len(letters[i]):]
	}
	return taken, text
}

// sequences passes all lists of up to so many of n indices.
func sequences(most, n int, pass func([]int)) {
	pass(nil)
	if most == 0 {
		return
	}
	sequences(most-1, n, func(list []int) {
		for i := range n {
			pass(append(slices.Clone(list), i))
		}
	})
}

// together returns letters one after the other.
func together(letters []string, list []int) string {
	text := ""
	for _, i := range list {
		text += letters[i]
	}
	return text
}

// readBack reports whether reading the text of any letters, up to so many, takes
// just these.
func readBack(letters []string, most int) bool {
	right := true
	sequences(most, len(letters), func(list []int) {
		if right {
			taken, rest := specTaken(letters, together(letters, list))
			right = rest == "" && slices.Equal(taken, list)
		}
	})
	return right
}

// decided is how the chapter says that this is decided: what goes on behind a
// shorter letter has one or two bytes, so that all texts of as many bytes with
// which any letters begin are put down.
func decided(letters []string) bool {
	one, two := map[string]bool{}, map[string]bool{}
	for _, l := range letters {
		one[l[:1]] = true
	}
	for _, l := range letters {
		if len(l) > 1 {
			two[l[:2]] = true
			continue
		}
		for b := range one {
			two[l+b] = true
		}
	}
	for _, l := range letters {
		for _, m := range letters {
			if rest, is := strings.CutPrefix(l, m); is && (one[rest] || two[rest]) {
				return false
			}
		}
	}
	return true
}

// specValid is what the chapter says of valid alphabets.
func specValid(a api.Alphabet) bool {
	return specFormed(a) && decided(a.Letters)
}

// specRead is what J2 says of Read.
func specRead(a api.Alphabet, text string) ([]int, api.Errno, int) {
	if !specValid(a) {
		return nil, api.ErrArg, 0
	}
	if text == "" {
		return nil, api.ErrEnd, 0
	}
	taken, rest := specTaken(a.Letters, text)
	if len(taken) > 24 {
		return nil, api.ErrLimit, len(together(a.Letters, taken[:24]))
	}
	if rest != "" {
		return nil, api.ErrChar, len(text) - len(rest)
	}
	return taken, api.OK, 0
}

// specJoin is what J3 says of Join.
func specJoin(a api.Alphabet, letters []int) (string, api.Errno) {
	wrong := func(i int) bool { return i < 0 || i > len(a.Letters)-1 }
	if !specValid(a) || len(letters) < 1 || len(letters) > 24 || slices.ContainsFunc(letters, wrong) {
		return "", api.ErrArg
	}
	return together(a.Letters, letters), api.OK
}

// specFold is what J4 says of Fold.
func specFold(a api.Alphabet, text string) (string, api.Errno) {
	letters, err, _ := specRead(a, text)
	if err != api.OK {
		return "", api.ErrArg
	}
	small := ""
	for _, i := range letters {
		small += a.Letters[a.Small[i]]
	}
	return small, api.OK
}

// compareText compares what is said of a text with the chapter.
func compareText(t *testing.T, a api.Alphabet, text string) api.Errno {
	t.Helper()
	got, err, at := Read(a, text)
	want, wantErr, wantAt := specRead(a, text)
	if !slices.Equal(got, want) || err != wantErr || at != wantAt {
		t.Fatalf("%v: %q is read as %v, %v, %v, not %v, %v, %v", a, text, got, err, at, want, wantErr, wantAt)
	}
	small, err := Fold(a, text)
	if want, wantErr := specFold(a, text); small != want || err != wantErr {
		t.Fatalf("%v: %q is folded to %q, %v, not %q, %v", a, text, small, err, want, wantErr)
	}
	return wantErr
}

// compareLetters compares what is said of some indices with the chapter.
func compareLetters(t *testing.T, a api.Alphabet, letters []int) {
	t.Helper()
	got, err := Join(a, letters)
	if want, wantErr := specJoin(a, letters); got != want || err != wantErr {
		t.Fatalf("%v: %v is joined to %q, %v, not %q, %v", a, letters, got, err, want, wantErr)
	}
}

// compareValid compares what is said of an alphabet with the chapter.
func compareValid(t *testing.T, a api.Alphabet) bool {
	t.Helper()
	want := specValid(a)
	if got := Valid(a); got != want {
		t.Fatalf("%v: %v", a, got)
	}
	return want
}

// All alphabets of letters of two bytes, and what is decided as the chapter says is
// the same as what is found by reading all texts of up to three letters.
func TestAllOfTwoBytes(t *testing.T) {
	count := [2]int{}
	texts := textsOf(0, 4, "abc")
	subsets(textsOf(1, 3, "ab"), 14, func(letters []string) {
		a := plain(letters...)
		if decided(letters) != readBack(letters, 3) {
			t.Fatalf("%v: decided in two ways", letters)
		}
		if !compareValid(t, a) {
			count[0]++
			compareText(t, a, "a")
			return
		}
		count[1]++
		for _, text := range texts {
			compareText(t, a, text)
		}
	})
	if count[0]+count[1] != 1<<14-1 || count[1] < 500 {
		t.Errorf("%v alphabets", count)
	}
}

// All alphabets of up to three letters of three bytes; more letters make no
// difference to what three letters tell.
func TestAllOfThreeBytes(t *testing.T) {
	count := [2]int{}
	texts := textsOf(0, 4, "abc")
	subsets(textsOf(1, 3, "abc"), 3, func(letters []string) {
		if decided(letters) != readBack(letters, 4) {
			t.Fatalf("%v: decided in two ways", letters)
		}
		for i, l := range arranged(letters)[:len(letters)] {
			a := plain(l...)
			if !compareValid(t, a) {
				count[0]++
				continue
			}
			count[1]++
			for n, text := range texts {
				if n%7 == i {
					compareText(t, a, text)
				}
			}
		}
	})
	if count[0] < 3000 || count[1] < 20000 {
		t.Errorf("%v alphabets", count)
	}
}

// All alphabets of four letters, of which one begins with another one.
func TestAllOfFourLetters(t *testing.T) {
	count := [2]int{}
	others := textsOf(1, 2, "abc")
	for _, long := range textsOf(2, 3, "abc") {
		subsets(others, 3, func(letters []string) {
			if slices.Contains(letters, long) {
				return
			}
			a := plain(append(letters, long)...)
			if decided(a.Letters) != readBack(a.Letters, 4) {
				t.Fatalf("%v: decided in two ways", a.Letters)
			}
			if compareValid(t, a) {
				count[1]++
			} else {
				count[0]++
			}
		})
	}
	if count[0] < 1000 || count[1] < 1000 {
		t.Errorf("%v alphabets", count)
	}
}

// All lists of small letters of up to three letters, also shorter and longer ones.
func TestAllSmall(t *testing.T) {
	count := [2]int{}
	for n := range 4 {
		for size := range n + 2 {
			everySmall(size, n, func(small []int) {
				a := plain([]string{"a", "bc", "d"}[:n]...)
				a.Small = small
				for _, text := range []string{"", "a", "bc", "d", "dbca", "bcd?"} {
					compareText(t, a, text)
				}
				if compareValid(t, a) {
					count[1]++
				} else {
					count[0]++
				}
			})
		}
	}
	if count[1] != 1+3+10 || count[0] < 800 {
		t.Errorf("%v alphabets", count)
	}
}

// All names of up to three bytes of the different classes, and of each one byte.
func TestAllNames(t *testing.T) {
	for _, name := range textsOf(0, 3, "aZ_7 \t\n#;!=\"\x00\x80\xff-<") {
		compareValid(t, named(name))
	}
	for b := range 256 {
		c := string([]byte{byte(b)})
		for _, name := range []string{c, "a" + c, c + "a", "a" + c + "b", strings.Repeat("n", 23) + c} {
			compareValid(t, named(name))
		}
	}
}

// textFor returns a text of letters of an alphabet, some of which are damaged.
func textFor(row *rand.Rand, a api.Alphabet) string {
	var b strings.Builder
	count := row.Intn(6)
	if row.Intn(3) == 0 {
		count = 22 + row.Intn(6)
	}
	for range count {
		b.WriteString(a.Letters[row.Intn(len(a.Letters))])
	}
	text := b.String()
	if at := row.Intn(len(text) + 1); row.Intn(3) == 0 {
		text = text[:at] + string([]byte{"abcd?\x80 "[row.Intn(7)]}) + text[at:]
	}
	return text
}

// Random alphabets, some of which are damaged, texts and indices.
func TestRandom(t *testing.T) {
	valid := 0
	errs := map[api.Errno]int{}
	random(10, 1500, func(row *rand.Rand, a api.Alphabet) {
		if compareValid(t, a) {
			valid++
		}
		for range 5 {
			errs[compareText(t, a, textFor(row, a))]++
			letters := make([]int, row.Intn(5))
			if row.Intn(3) == 0 {
				letters = make([]int, 22+row.Intn(5))
			}
			for i := range letters {
				letters[i] = row.Intn(len(a.Letters))
			}
			if len(letters) > 0 && row.Intn(3) == 0 {
				letters[row.Intn(len(letters))] = row.Intn(3*len(a.Letters)) - len(a.Letters)
			}
			compareLetters(t, a, letters)
		}
	})
	if valid < 3000 || valid > 9000 || len(errs) != 5 || slices.Min([]int{errs[api.ErrArg], errs[api.ErrEnd], errs[api.ErrChar], errs[api.ErrLimit]}) < 500 {
		t.Errorf("%v valid alphabets, %v", valid, errs)
	}
}
