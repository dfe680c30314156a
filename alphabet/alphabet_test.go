package alphabet

import (
	"math"
	"slices"
	"strings"
	"testing"

	"gazetteer/api"
)

// valids are valid alphabets.
var valids = []struct {
	name string
	a    api.Alphabet
}{
	{"the example", sample()},
	{"one letter of one byte", plain("a")},
	{"of two", plain("ab")},
	{"of three", plain("abc")},
	{"three equal bytes", plain("aaa")},
	{"the first byte", plain("!")},
	{"the last one", plain("~")},
	{"the bytes beside the quote", plain("!", "#")},
	{"signs in one letter", plain("~!#")},
	{"letters of one, two and three bytes", plain("a", "bc", "def")},
	{"two letters of two bytes, one turned", plain("ab", "ba")},
	{"all letters of two bytes of two", plain("aa", "ab", "ba", "bb")},
	{"63 letters", plain(numbered(63)...)},
	{"64 letters", plain(numbered(64)...)},
	{"64 letters of one byte", plain(single(63, 64)...)},
	{"64 letters of two bytes", plain(doubled(single(63, 64))...)},
	// Letters that begin with others.
	{"a letter, and a longer one", plain("a", "ab")},
	{"the longer one first", plain("ab", "a")},
	{"two longer ones", plain("a", "ab", "ac")},
	{"each one longer than the one before", plain("a", "ab", "abc")},
	{"two bytes and three", plain("ab", "abc")},
	{"one byte and three", plain("a", "abc")},
	{"what follows stands within a letter", plain("a", "ab", "cb")},
	{"what follows stands within a letter of three bytes", plain("a", "ab", "cbc")},
	{"what follows is within the shorter one", plain("ab", "abb")},
	{"the first byte of what follows is a letter", plain("a", "abc", "b")},
	{"and the second one is within another letter", plain("a", "abc", "b", "dc")},
	{"what follows begins like another letter", plain("a", "abc", "bd")},
	{"what follows begins like the letter itself", plain("a", "aab")},
	{"what follows begins like a longer letter", plain("a", "abc", "bdc")},
	{"what follows ends like a word", plain("a", "aba")},
	{"what follows is the end of another letter", plain("n", "na", "ka")},
	{"what follows has a letter as second byte", plain("a", "abc", "c")},
	{"the same for two", plain("a", "abc", "c", "d", "dbc")},
	{"no shorter letter, but the same beginning", plain("abc", "abd", "c", "bc")},
	{"64 letters, 63 of which are longer", plain(longer()...)},
	// Small letters.
	{"one small letter", folded("a", 0, "A", 0)},
	{"the small letter behind", folded("A", 1, "a", 1)},
	{"one small letter for all", folded("a", 1, "b", 1, "c", 1, "d", 1)},
	{"longer letters, shorter small letters", folded("a", 0, "bcd", 0, "ef", 2, "g", 2)},
	{"two small letters, crossed", folded("A", 2, "B", 3, "a", 2, "b", 3)},
	{"a small letter that begins with its other one", folded("a", 1, "ab", 1)},
	{"64 letters with one small letter", sameSmall(64, 63)},
	// Names.
	{"a name of one letter", named("A")},
	{"a name of one small letter", named("z")},
	{"a name with all kinds of bytes", named("aZ_09__")},
	{"a name of 24 bytes", named(strings.Repeat("n", 24))},
	{"a name that is one of the letters", named("abc")},
}

// J1, J2, J3, J4: valid alphabets, each of whose letters is a word of its own.
func TestValids(t *testing.T) {
	for _, x := range valids {
		if !Valid(x.a) {
			t.Errorf("%v: not valid", x.name)
		}
		for i, letter := range x.a.Letters {
			if got, err, at := Read(x.a, letter); !slices.Equal(got, []int{i}) || err != api.OK || at != 0 {
				t.Errorf("%v: %q is read as %v, %v, %v", x.name, letter, got, err, at)
			}
			if got, err := Join(x.a, []int{i}); got != letter || err != api.OK {
				t.Errorf("%v: %v is joined to %q, %v", x.name, i, got, err)
			}
			if got, err := Fold(x.a, letter); got != x.a.Letters[x.a.Small[i]] || err != api.OK {
				t.Errorf("%v: %q is folded to %q, %v", x.name, letter, got, err)
			}
		}
		if got, err, at := Read(x.a, ""); len(got) != 0 || err != api.ErrEnd || at != 0 {
			t.Errorf("%v: no text is read as %v, %v, %v", x.name, got, err, at)
		}
	}
}

// refused checks that an alphabet is not valid, whatever is asked.
func refused(t *testing.T, name string, a api.Alphabet) {
	t.Helper()
	if Valid(a) {
		t.Errorf("%v: valid", name)
		return
	}
	texts := append([]string{"", "a", "ab", "?", " ", strings.Repeat("a", 25)}, a.Letters[:min(len(a.Letters), 3)]...)
	for _, text := range texts {
		if got, err, at := Read(a, text); len(got) != 0 || err != api.ErrArg || at != 0 {
			t.Errorf("%v: %.20q is read as %v, %v, %v", name, text, got, err, at)
		}
		if got, err := Fold(a, text); got != "" || err != api.ErrArg {
			t.Errorf("%v: %.20q is folded to %q, %v", name, text, got, err)
		}
	}
	for _, letters := range [][]int{nil, {0}, {0, 0}, {-1}, {math.MaxInt}, make([]int, 24), make([]int, 25)} {
		if got, err := Join(a, letters); got != "" || err != api.ErrArg {
			t.Errorf("%v: %v is joined to %q, %v", name, letters, got, err)
		}
	}
}

// J1: alphabets with wrong letters, or too few, or too many of them.
func TestWrongLetters(t *testing.T) {
	refused(t, "the zero value", api.Alphabet{})
	refused(t, "no letter", plain())
	refused(t, "65 letters", plain(numbered(65)...))
	refused(t, "66 letters", plain(numbered(66)...))
	refused(t, "65 letters of one byte", plain(single(62, 65)...))
	refused(t, "100000 letters", plain(make([]string, 100000)...))
	for _, x := range []struct{ name, letter string }{
		{"no byte", ""},
		{"four bytes", "abcd"},
		{"five bytes", "abcde"},
		{"100000 bytes", strings.Repeat("a", 100000)},
		{"a letter of two bytes that is one", "\u00e4"},
		{"a letter of three bytes that is one", "\u20ac"},
	} {
		refused(t, x.name+", alone", plain(x.letter))
		refused(t, x.name+", first", plain(x.letter, "x", "y"))
		refused(t, x.name+", in the middle", plain("x", x.letter, "y"))
		refused(t, x.name+", last", plain("x", "y", x.letter))
	}
}

// J1: each byte, alone and at each place of longer letters.
func TestBytes(t *testing.T) {
	count := 0
	for b := range 256 {
		right := 33 <= b && b <= 126 && b != 34
		for _, before := range []string{"", "x", "xy"} {
			for _, behind := range []string{"", "x", "xy"}[:3-len(before)] {
				a := plain("0", before+string([]byte{byte(b)})+behind, "1")
				if b == '0' || b == '1' {
					a = plain(a.Letters[1])
				}
				if right && Valid(a) {
					count++
				} else if right {
					t.Errorf("%q: not valid", a.Letters)
				} else {
					refused(t, "a wrong byte", a)
				}
			}
		}
	}
	if count != 93*6 {
		t.Errorf("%v letters", count)
	}
}

// J1: equal letters, at any two places.
func TestEqualLetters(t *testing.T) {
	for _, count := range []int{2, 3, 5, 64} {
		for i := range count {
			for j := range i {
				letters := numbered(count)
				letters[i] = letters[j]
				if Valid(plain(letters...)) {
					t.Fatalf("%v letters, %v and %v of which are equal: valid", count, j, i)
				}
			}
		}
	}
	refused(t, "two equal letters", plain("a", "a"))
	refused(t, "equal letters with the same small letter", folded("a", 0, "a", 0))
	refused(t, "equal letters of three bytes", plain("abc", "d", "abc"))
	refused(t, "all of three equal", plain("ab", "ab", "ab"))
	for _, l := range [][]string{{"a", "a"}, {"a", "b", "a"}, {"a", "b", "b"}, {"a", "a", "b"}, append(numbered(64), "x00")} {
		a := plain(l...)
		a.Small = a.Small[:len(l)-1]
		refused(t, "equal letters, and small letters for the others alone", a)
	}
}

// J1: wrong small letters.
func TestWrongSmall(t *testing.T) {
	with := func(small ...int) api.Alphabet {
		return api.Alphabet{Name: "x", Letters: []string{"a", "b", "c"}, Small: small}
	}
	if !Valid(with(0, 1, 2)) || !Valid(with(0, 0, 0)) || !Valid(with(2, 1, 2)) {
		t.Error("not valid with right small letters")
	}
	refused(t, "none", with())
	refused(t, "two for three letters", with(0, 1))
	refused(t, "two equal ones for three letters", with(0, 0))
	refused(t, "four for three letters", with(0, 1, 2, 0))
	refused(t, "four, one of which is beyond", with(0, 1, 2, 3))
	refused(t, "one alone for no letter", api.Alphabet{Name: "x", Small: []int{0}})
	for _, wrong := range []int{-1, -2, 3, 4, 64, math.MaxInt, math.MinInt, math.MinInt + 1, 1 << 32} {
		refused(t, "no letter, first", with(wrong, 1, 2))
		refused(t, "no letter, in the middle", with(0, wrong, 2))
		refused(t, "no letter, last", with(0, 1, wrong))
		refused(t, "no letter, always", with(wrong, wrong, wrong))
	}
	refused(t, "two exchanged", with(1, 0, 2))
	refused(t, "the last two exchanged", with(0, 2, 1))
	refused(t, "three in a circle", with(1, 2, 0))
	refused(t, "three in the other circle", with(2, 0, 1))
	refused(t, "a small letter that has another one", with(1, 2, 2))
	refused(t, "the same backwards", with(0, 0, 1))
	refused(t, "two letters, whose small letter has another one", with(1, 2, 1))
	refused(t, "64 letters, and the next one always", func() api.Alphabet {
		a := plain(numbered(64)...)
		for i := range a.Small {
			a.Small[i] = min(i+1, 63)
		}
		return a
	}())
}

// J1: names that are no identifiers.
func TestWrongNames(t *testing.T) {
	for _, name := range []string{
		"", " ", "_", "_a", "1", "1a", "7", "a b", "a a", " a", "a ", "\ta", "a\t", "\na", "a\n", "a\n\n",
		"#", "#a", "a#", "a#b", "a #b", "#\na", "\"a\"", "\"\"", "\"a", "a\"", ";", "a;", ";a", "a-b", "a.b", "-", "<=",
		"!", "a!", "\x00", "a\x00", "\x00a", "\u00e4", "a\u00e4", "a\x80", "\xff", "a\r", "a'", "a/b", "@a",
		strings.Repeat("n", 25), strings.Repeat("n", 26), strings.Repeat("n", 24) + " ", strings.Repeat("n", 24) + ";",
		strings.Repeat("n", 20000), strings.Repeat("n", 20001), "a" + strings.Repeat(" ", 19999), "a" + strings.Repeat(" ", 20000),
		strings.Repeat("a ", 5000), strings.Repeat("a ", 5001), strings.Repeat("a;", 1000000),
	} {
		refused(t, "the name "+name[:min(len(name), 30)], named(name))
	}
}

// J1: alphabets whose letters are not always read as they were written.
func TestDoubtful(t *testing.T) {
	for _, letters := range [][]string{
		// What follows in the longer letter is a letter, or the beginning of one.
		{"a", "ab", "b"}, {"a", "aa"}, {"a", "aaa"}, {"aa", "aaa"}, {"n", "na", "a"}, {"a", "ab", "bc"}, {"a", "ab", "bcd"},
		{"ab", "abc", "c"}, {"ab", "abc", "cd"}, {"ab", "abc", "cde"}, {"ab", "aba"}, {"a", "ab", "ba"},
		{"a", "abc", "bc"}, {"a", "abc", "bcd"}, {"a", "aab", "ab"}, {"a", "abb", "bb"},
		// It is two letters, or one and the beginning of another one.
		{"a", "abc", "b", "c"}, {"a", "abc", "b", "cd"}, {"a", "abc", "b", "cde"}, {"a", "aab", "b"}, {"a", "aab", "bc"},
		{"a", "abb", "b"}, {"a", "aba", "b"}, {"a", "bac", "b", "cd"}, {"x", "xab", "a", "bab"}, {"a", "aaa", "b"},
		// The longer letter is as long as two or three that can be written.
		{"abc", "ab", "a", "bc", "c"}, {"a", "aa", "aaa"}, {"a", "b", "ab", "ba"},
	} {
		for _, l := range arranged(letters) {
			refused(t, strings.Join(l, ", "), plain(l...))
		}
	}
	many := longer()
	for i := 1; i < 64; i++ {
		l := slices.Clone(many)
		l[i] = many[1+i%63][1:]
		refused(t, "64 letters, one of which follows the shorter one", plain(l...))
	}
	refused(t, "the example with bc", plain("a", "ab", "c", "A", "C", "bc"))
}

// J2: words of known letters, and texts that are no words.
func TestRead(t *testing.T) {
	steps := plain("abc", "a", "ab", "d")
	wide := plain("abc", "~", "!!")
	for _, x := range []struct {
		a    api.Alphabet
		text string
		want []int
		err  api.Errno
		at   int
	}{
		{sample(), "abaAc", []int{1, 0, 3, 2}, api.OK, 0},
		{sample(), "a", []int{0}, api.OK, 0},
		{sample(), "C", []int{4}, api.OK, 0},
		{sample(), "aab", []int{0, 1}, api.OK, 0},
		{sample(), "aaa", []int{0, 0, 0}, api.OK, 0},
		{sample(), "ababab", []int{1, 1, 1}, api.OK, 0},
		{steps, "abcaba", []int{0, 2, 1}, api.OK, 0},
		{steps, "aababc", []int{1, 2, 0}, api.OK, 0},
		{steps, "adabdabcd", []int{1, 3, 2, 3, 0, 3}, api.OK, 0},
		{wide, "abc!!~", []int{0, 2, 1}, api.OK, 0},
		{wide, "!!!!", []int{2, 2}, api.OK, 0},
		// No letter begins at the first place.
		{sample(), "b", nil, api.ErrChar, 0},
		{sample(), "ba", nil, api.ErrChar, 0},
		{sample(), " a", nil, api.ErrChar, 0},
		{sample(), "B", nil, api.ErrChar, 0},
		{sample(), "\x00", nil, api.ErrChar, 0},
		{sample(), "\xff", nil, api.ErrChar, 0},
		{sample(), "\u00e4", nil, api.ErrChar, 0},
		{wide, "ab", nil, api.ErrChar, 0},
		{wide, "ab~", nil, api.ErrChar, 0},
		{wide, "bc", nil, api.ErrChar, 0},
		{wide, "!", nil, api.ErrChar, 0},
		// Nor behind some letters.
		{sample(), "acb", nil, api.ErrChar, 2},
		{sample(), "abb", nil, api.ErrChar, 2},
		{sample(), "abba", nil, api.ErrChar, 2},
		{sample(), "a b", nil, api.ErrChar, 1},
		{sample(), "a\n", nil, api.ErrChar, 1},
		{sample(), "aabA?", nil, api.ErrChar, 4},
		{steps, "abcc", nil, api.ErrChar, 3},
		{steps, "abcb", nil, api.ErrChar, 3},
		{steps, "ac", nil, api.ErrChar, 1},
		{wide, "abca", nil, api.ErrChar, 3},
		{wide, "abcab", nil, api.ErrChar, 3},
		{wide, "~!!!", nil, api.ErrChar, 3},
		{wide, "~!", nil, api.ErrChar, 1},
	} {
		got, err, at := Read(x.a, x.text)
		if !slices.Equal(got, x.want) || err != x.err || at != x.at {
			t.Errorf("%q: %v, %v, %v", x.text, got, err, at)
		}
	}
}

// J2: 24 letters and more.
func TestLongWords(t *testing.T) {
	for i, letter := range sample().Letters {
		size := len(letter)
		for count := 1; count < 30; count++ {
			text := strings.Repeat(letter, count)
			for _, behind := range []string{"", "b", "?b", "\x00", " ", strings.Repeat("b", 100000)} {
				want, wantErr, wantAt := slices.Repeat([]int{i}, count), api.OK, 0
				if behind != "" {
					wantErr, wantAt = api.ErrChar, count*size
				}
				if count > 24 {
					wantErr, wantAt = api.ErrLimit, 24*size
				}
				if letter == "a" && strings.HasPrefix(behind, "b") {
					continue // the last letter is ab
				}
				if wantErr != api.OK {
					want = nil
				}
				got, err, at := Read(sample(), text+behind)
				if !slices.Equal(got, want) || err != wantErr || at != wantAt {
					t.Errorf("%v times %q and %.5q: %v, %v, %v", count, letter, behind, got, err, at)
				}
			}
		}
	}
	wide := plain("abc", "d", "de")
	for _, x := range []struct {
		text string
		err  api.Errno
		at   int
	}{
		{strings.Repeat("abc", 24), api.OK, 0},
		{strings.Repeat("abc", 25), api.ErrLimit, 72},
		{strings.Repeat("abc", 24) + "ab", api.ErrChar, 72},
		{strings.Repeat("abc", 23) + "d", api.OK, 0},
		{strings.Repeat("abc", 23) + "de", api.OK, 0},
		{strings.Repeat("abc", 23) + "dd", api.ErrLimit, 70},
		{strings.Repeat("abc", 23) + "ded", api.ErrLimit, 71},
		{strings.Repeat("abc", 23) + "dee", api.ErrChar, 71},
		{strings.Repeat("d", 23) + "de", api.OK, 0},
		{strings.Repeat("d", 24) + "de", api.ErrLimit, 24},
		{strings.Repeat("d", 24) + "e", api.OK, 0},
		{"e" + strings.Repeat("d", 25), api.ErrChar, 0},
		{strings.Repeat("d", 12) + "?" + strings.Repeat("d", 25), api.ErrChar, 12},
		{strings.Repeat("d", 1000000), api.ErrLimit, 24},
	} {
		if got, err, at := Read(wide, x.text); (len(got) == 24) != (err == api.OK) || err != x.err || at != x.at {
			t.Errorf("%.80q: %v, %v, %v", x.text, got, err, at)
		}
	}
}

// J3: known words, and indices that are wrong.
func TestJoin(t *testing.T) {
	for _, x := range []struct {
		letters []int
		want    string
	}{
		{[]int{1, 0, 3, 2}, "abaAc"},
		{[]int{0}, "a"},
		{[]int{4}, "C"},
		{[]int{0, 1}, "aab"},
		{[]int{4, 3, 2, 1, 0}, "CAcaba"},
		{slices.Repeat([]int{1}, 23), strings.Repeat("ab", 23)},
		{slices.Repeat([]int{1}, 24), strings.Repeat("ab", 24)},
	} {
		if got, err := Join(sample(), x.letters); got != x.want || err != api.OK {
			t.Errorf("%v: %q, %v", x.letters, got, err)
		}
	}
	for _, letters := range [][]int{nil, {}, make([]int, 25), make([]int, 26), make([]int, 1000000), slices.Repeat([]int{-1}, 25)} {
		if got, err := Join(sample(), letters); got != "" || err != api.ErrArg {
			t.Errorf("%v indices: %q, %v", len(letters), got, err)
		}
	}
	for _, wrong := range []int{-1, -2, 5, 6, 64, math.MaxInt, math.MinInt, 1 << 32, -1 << 32} {
		for _, count := range []int{1, 2, 3, 24} {
			for i := range count {
				letters := make([]int, count)
				letters[i] = wrong
				if got, err := Join(sample(), letters); got != "" || err != api.ErrArg {
					t.Errorf("%v: %q, %v", letters, got, err)
				}
			}
		}
	}
	for _, count := range []int{1, 2, 63, 64} {
		a := plain(numbered(count)...)
		if got, err := Join(a, []int{count - 1}); got != a.Letters[count-1] || err != api.OK {
			t.Errorf("the last of %v letters: %q, %v", count, got, err)
		}
		if got, err := Join(a, []int{count}); got != "" || err != api.ErrArg {
			t.Errorf("beyond %v letters: %q, %v", count, got, err)
		}
	}
}

// J4: known folded words, and texts that are no words.
func TestFold(t *testing.T) {
	behind := folded("A", 2, "BC", 3, "a", 2, "bcd", 3)
	for _, x := range []struct {
		a          api.Alphabet
		text, want string
	}{
		{sample(), "ACab", "acab"},
		{sample(), "A", "a"},
		{sample(), "C", "c"},
		{sample(), "a", "a"},
		{sample(), "abab", "abab"},
		{sample(), "aAcC", "aacc"},
		{sample(), strings.Repeat("A", 23), strings.Repeat("a", 23)},
		{sample(), strings.Repeat("A", 24), strings.Repeat("a", 24)},
		{behind, "ABCabcd", "abcdabcd"},
		{behind, "BCBC", "bcdbcd"},
		{behind, "bcdA", "bcda"},
		{folded("a", 1, "ab", 1), "aaba", "ababab"},
	} {
		if got, err := Fold(x.a, x.text); got != x.want || err != api.OK {
			t.Errorf("%q: %q, %v", x.text, got, err)
		}
	}
	for _, text := range []string{
		"", "b", "AcAb", "Abc", "ab ", " ab", "B", "abb", "\u00e4", "\x00", strings.Repeat("A", 25), strings.Repeat("ab", 25), strings.Repeat("c", 24) + "b", strings.Repeat("a", 1000000),
	} {
		if got, err := Fold(sample(), text); got != "" || err != api.ErrArg {
			t.Errorf("%.60q: %q, %v", text, got, err)
		}
	}
}
