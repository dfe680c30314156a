package alphabet

import (
	"math/rand"
	"slices"
	"strconv"

	"gazetteer/api"
)

// sample returns the alphabet of the chapter's examples.
func sample() api.Alphabet {
	return folded("a", 0, "ab", 1, "c", 2, "A", 0, "C", 2)
}

// folded returns an alphabet of letters, each with the index of its small letter.
func folded(pairs ...any) api.Alphabet {
	a := api.Alphabet{Name: "latin"}
	for i := 0; i < len(pairs); i += 2 {
		a.Letters = append(a.Letters, pairs[i].(string))
		a.Small = append(a.Small, pairs[i+1].(int))
	}
	return a
}

// plain returns an alphabet in which each letter is its own small letter.
func plain(letters ...string) api.Alphabet {
	a := api.Alphabet{Name: "x", Letters: slices.Clone(letters)}
	for i := range letters {
		a.Small = append(a.Small, i)
	}
	return a
}

// named returns an alphabet with a name.
func named(name string) api.Alphabet {
	a := sample()
	a.Name = name
	return a
}

// sameSmall returns an alphabet of so many letters which have one small letter.
func sameSmall(count, small int) api.Alphabet {
	a := plain(numbered(count)...)
	for i := range a.Small {
		a.Small[i] = small
	}
	return a
}

// numbered returns so many letters of three bytes, at most 100.
func numbered(count int) []string {
	var l []string
	for i := range count {
		l = append(l, "x"+strconv.Itoa(i/10)+strconv.Itoa(i%10))
	}
	return l
}

// single returns so many letters of one byte, from a byte on.
func single(first, count int) []string {
	var l []string
	for i := range count {
		l = append(l, string([]byte{byte(first + i)}))
	}
	return l
}

// doubled returns each letter twice, as one letter.
func doubled(letters []string) []string {
	var l []string
	for _, letter := range letters {
		l = append(l, letter+letter)
	}
	return l
}

// longer returns a letter and 63 longer ones, which make a valid alphabet.
func longer() []string {
	l := []string{"a"}
	for i := range 63 {
		l = append(l, "a"+string([]byte{byte('A' + i/8), byte('P' + i%8)}))
	}
	return l
}

// arranged returns letters in their order, backwards, and with each one first.
func arranged(letters []string) [][]string {
	back := slices.Clone(letters)
	slices.Reverse(back)
	list := [][]string{letters, back}
	for i := range letters {
		list = append(list, slices.Concat(letters[i:], letters[:i]))
	}
	return list
}

// textsOf returns all texts of so many bytes, at least and at most, of some bytes.
func textsOf(least, most int, bytes string) []string {
	list, last := []string{}, []string{""}
	for size := 0; size <= most; size++ {
		if size >= least {
			list = append(list, last...)
		}
		var next []string
		for _, text := range last {
			for i := range len(bytes) {
				next = append(next, text+bytes[i:i+1])
			}
		}
		last = next
	}
	return list
}

// subsets passes all lists of at least one and at most so many different letters,
// in one order.
func subsets(letters []string, most int, pass func([]string)) {
	var choose func(from int, chosen []string)
	choose = func(from int, chosen []string) {
		if len(chosen) > 0 {
			pass(slices.Clone(chosen))
		}
		for i := from; i < len(letters) && len(chosen) < most; i++ {
			choose(i+1, append(slices.Clone(chosen), letters[i]))
		}
	}
	choose(0, nil)
}

// everySmall passes all lists of so many indices, from -1 to count.
func everySmall(size, count int, pass func([]int)) {
	if size == 0 {
		pass(nil)
		return
	}
	everySmall(size-1, count, func(small []int) {
		for i := -1; i <= count; i++ {
			pass(append(slices.Clone(small), i))
		}
	})
}

// chosen returns an alphabet of up to most different letters of some, in any order,
// with any right small letters, by a row of numbers.
func chosen(row *rand.Rand, letters []string, most int) api.Alphabet {
	count := 1 + row.Intn(min(most, len(letters)))
	a := api.Alphabet{Name: "x"}
	for _, i := range row.Perm(len(letters))[:count] {
		a.Letters = append(a.Letters, letters[i])
	}
	own := row.Intn(count)
	for i := range count {
		if row.Intn(3) == 0 {
			i = own
		}
		a.Small = append(a.Small, i)
	}
	a.Small[own] = own
	return a
}

// cleared returns an alphabet without letters of others that make it doubtful: it
// leaves out one after the other, from the last one on, until it is valid.
func cleared(a api.Alphabet) api.Alphabet {
	b := plain(a.Letters...)
	for len(b.Letters) > 1 && !specValid(b) {
		b = plain(b.Letters[:len(b.Letters)-1]...)
	}
	return b
}

// random passes so many alphabets by a row of numbers: of few letters of few
// bytes, of many letters, of letters of one length, and damaged ones.
func random(seed int64, count int, pass func(row *rand.Rand, a api.Alphabet)) {
	row := rand.New(rand.NewSource(seed))
	few, more := textsOf(1, 3, "ab"), textsOf(1, 3, "abcd")
	many := slices.Concat(textsOf(3, 3, "abcde"), textsOf(1, 1, "fghijklmnop"), textsOf(2, 2, "qrst"))
	for range count {
		pass(row, chosen(row, few, 4))
		pass(row, chosen(row, more, 6))
		pass(row, chosen(row, more, 20))
		pass(row, chosen(row, many, 64))
		pass(row, chosen(row, textsOf(2, 2, "abcdefgh"), 65))
		pass(row, cleared(chosen(row, more, 40)))
		pass(row, damaged(row, chosen(row, many, 10)))
	}
}

// damaged returns an alphabet with one thing that is often wrong.
func damaged(row *rand.Rand, a api.Alphabet) api.Alphabet {
	i, j := row.Intn(len(a.Letters)), row.Intn(len(a.Letters))
	switch row.Intn(6) {
	case 0:
		a.Letters[i] = a.Letters[j]
	case 1:
		a.Letters[i] += string([]byte{byte(row.Intn(256))})
	case 2:
		a.Letters[i] = a.Letters[i][1:]
	case 3:
		a.Small[i] = j + row.Intn(3) - 1
	case 4:
		a.Small = a.Small[:i]
	case 5:
		a.Name = []string{"", "y", "7", "a b", "a_7", " x"}[row.Intn(6)]
	}
	return a
}
