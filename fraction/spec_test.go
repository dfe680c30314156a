package fraction

import (
	"math"
	"math/big"
	"math/rand"
	"regexp"
	"strings"
	"testing"

	"gazetteer/api"
)

// The chapter's words written down once more, as directly as possible, with
// numbers of any size. Nothing here is taken from the code under test.

var (
	specTop  = new(big.Int).Lsh(big.NewInt(1), 62)
	specText = regexp.MustCompile(`^(0|-?[1-9][0-9]*)(?:/([1-9][0-9]*))?$`)
)

// specValid is what the chapter says of valid fractions.
func specValid(f api.Fraction) bool {
	num, den := big.NewInt(int64(f.Num)), big.NewInt(int64(f.Den))
	if den.Sign() <= 0 || den.Cmp(specTop) > 0 || num.CmpAbs(specTop) > 0 {
		return false
	}
	common := new(big.Int).GCD(nil, nil, new(big.Int).Abs(num), den)
	return common.IsInt64() && common.Int64() == 1
}

// specOf returns the valid fraction of a number.
func specOf(r *big.Rat) (api.Fraction, api.Errno) {
	if r.Num().CmpAbs(specTop) > 0 || r.Denom().Cmp(specTop) > 0 {
		return api.Fraction{}, api.ErrRange
	}
	return fr(int(r.Num().Int64()), int(r.Denom().Int64())), api.OK
}

// rat returns the value of a fraction, whose denominator is not 0.
func rat(f api.Fraction) *big.Rat {
	return big.NewRat(int64(f.Num), int64(f.Den))
}

// specParse is what E6 says of Parse.
func specParse(text string) (api.Fraction, api.Errno) {
	m := specText.FindStringSubmatch(text)
	if m == nil || m[2] == "1" {
		return api.Fraction{}, api.ErrSyntax
	}
	num, _ := new(big.Int).SetString(m[1], 10)
	den := big.NewInt(1)
	if m[2] != "" {
		den, _ = new(big.Int).SetString(m[2], 10)
	}
	if !num.IsInt64() || !den.IsInt64() {
		return api.Fraction{}, api.ErrSyntax
	}
	f := fr(int(num.Int64()), int(den.Int64()))
	if !specValid(f) {
		return api.Fraction{}, api.ErrSyntax
	}
	return f, api.OK
}

// edges returns terms at and near the places where something changes; those of
// valid fractions are among them, and others.
func edges() []int {
	list := []int{0, 1, 2, 3, 4, 5, 6, 7, 9, 10, 12, 35, 1000000000, math.MaxInt, math.MaxInt - 1}
	for _, n := range []int{1 << 31, 1 << 32, 1 << 61, top / 3, top - 5, top} {
		list = append(list, n-2, n-1, n, n+1, n+2)
	}
	for _, n := range list {
		list = append(list, -n)
	}
	return append(list, math.MinInt)
}

// random returns a number with any count of bits and any sign.
func random(r *rand.Rand) int {
	n := int(r.Uint64() >> (1 + r.Intn(63)))
	if r.Intn(2) == 0 {
		return -n
	}
	return n
}

// valids returns valid fractions: all with terms up to 6, and those of the
// edges.
func valids() []api.Fraction {
	seen := map[api.Fraction]bool{}
	var list []api.Fraction
	keep := func(f api.Fraction) {
		if specValid(f) && !seen[f] {
			seen[f] = true
			list = append(list, f)
		}
	}
	for num := -6; num <= 6; num++ {
		for den := 1; den <= 6; den++ {
			keep(fr(num, den))
		}
	}
	for _, num := range edges() {
		for _, den := range []int{1, 2, 7, 1 << 31, 1<<31 - 1, 1<<32 + 1, 3 << 60, 1 << 61, top/3 + 1, top - 1, top} {
			keep(fr(num, den))
		}
	}
	return list
}

func testValid(t *testing.T, f api.Fraction) {
	t.Helper()
	if got, want := Valid(f), specValid(f); got != want {
		t.Fatalf("Valid of %v: %t", f, got)
	}
}

func testOf(t *testing.T, num, den int) {
	t.Helper()
	want, wantErr := api.Fraction{}, api.ErrZero
	if den != 0 {
		want, wantErr = specOf(rat(fr(num, den)))
	}
	if got, err := Of(num, den); got != want || err != wantErr {
		t.Fatalf("Of(%d, %d): %v, %d, want %v, %d", num, den, got, err, want, wantErr)
	}
}

// testPair compares what is computed of two valid fractions.
func testPair(t *testing.T, f, g api.Fraction) {
	t.Helper()
	x, y := rat(f), rat(g)
	want, wantErr := specOf(new(big.Rat).Add(x, y))
	if got, err := Add(f, g); got != want || err != wantErr {
		t.Fatalf("Add of %v and %v: %v, %d, want %v, %d", f, g, got, err, want, wantErr)
	}
	want, wantErr = specOf(new(big.Rat).Mul(x, y))
	if got, err := Mul(f, g); got != want || err != wantErr {
		t.Fatalf("Mul of %v and %v: %v, %d, want %v, %d", f, g, got, err, want, wantErr)
	}
	if got, err := Compare(f, g); got != x.Cmp(y) || err != api.OK {
		t.Fatalf("Compare of %v and %v: %d, %d, want %d", f, g, got, err, x.Cmp(y))
	}
}

// testSingle compares what is computed of a valid fraction.
func testSingle(t *testing.T, f api.Fraction) {
	t.Helper()
	// Div rounds down if the divisor is positive.
	floor := new(big.Int).Div(big.NewInt(int64(f.Num)), big.NewInt(int64(f.Den)))
	if got, err := Floor(f); big.NewInt(int64(got)).Cmp(floor) != 0 || err != api.OK {
		t.Fatalf("Floor of %v: %d, %d, want %v", f, got, err, floor)
	}
	want := strings.TrimSuffix(rat(f).String(), "/1")
	if got, err := Text(f); got != want || err != api.OK {
		t.Fatalf("Text of %v: %q, %d, want %q", f, got, err, want)
	}
	if got, err := Parse(want); got != f || err != api.OK {
		t.Fatalf("Parse of %q: %v, %d", want, got, err)
	}
}

func testParse(t *testing.T, text string) {
	t.Helper()
	want, wantErr := specParse(text)
	if got, err := Parse(text); got != want || err != wantErr {
		t.Fatalf("Parse of %q: %v, %d, want %v, %d", text, got, err, want, wantErr)
	}
}

// E1, E2: all pairs of small terms, of edges, and some of any size.
func TestTermsAsSpecified(t *testing.T) {
	for num := -60; num <= 60; num++ {
		for den := -60; den <= 60; den++ {
			testValid(t, fr(num, den))
			testOf(t, num, den)
		}
	}
	for _, num := range edges() {
		for _, den := range edges() {
			testValid(t, fr(num, den))
			testOf(t, num, den)
		}
	}
	r := rand.New(rand.NewSource(1))
	for range 30000 {
		num, den, common := random(r), random(r), random(r)
		testValid(t, fr(num, den))
		testOf(t, num, den)
		testOf(t, num*common, den*common) // modulo 2^64
		n, c := r.Intn(top)+1, r.Intn(1<<20)+1
		testOf(t, n/c*c, (top/c-r.Intn(3))*c)
	}
}

// E3 to E6: all pairs of valids.
func TestFractionsAsSpecified(t *testing.T) {
	list := valids()
	for _, f := range list {
		testSingle(t, f)
		for _, g := range list {
			testPair(t, f, g)
		}
	}
}

// randomValid returns a valid fraction with terms of any size.
func randomValid(r *rand.Rand) api.Fraction {
	for {
		f, err := specOf(big.NewRat(int64(random(r)), int64(r.Uint64()>>(1+r.Intn(63)))|1))
		if err == api.OK {
			return f
		}
	}
}

// E3 to E6: fractions of any size, alone and with others whose terms have
// divisors in common with theirs.
func TestRandomFractionsAsSpecified(t *testing.T) {
	r := rand.New(rand.NewSource(2))
	for range 30000 {
		f, g := randomValid(r), randomValid(r)
		testSingle(t, f)
		testPair(t, f, g)
		testPair(t, f, f)
		testPair(t, f, fr(-f.Num, f.Den))
		for _, h := range related(r, f) {
			testPair(t, f, h)
		}
	}
}

// related returns valid fractions with divisors of a fraction's terms: its
// reciprocal, what lies near to its opposite and its double, and those whose
// denominators are parts or multiples of its own.
func related(r *rand.Rand, f api.Fraction) []api.Fraction {
	k := int64(r.Intn(30) + 1)
	numbers := []*big.Rat{
		new(big.Rat).Sub(big.NewRat(int64(r.Intn(9)-4), int64(f.Den)), rat(f)),
		new(big.Rat).Add(big.NewRat(int64(r.Intn(9)-4), k), rat(f)),
		big.NewRat(int64(random(r)), int64(f.Den)),
		new(big.Rat).Mul(big.NewRat(int64(random(r)|1), k), big.NewRat(1, int64(f.Den))),
		big.NewRat(int64(random(r)), max(int64(f.Den)/k, 1)),
	}
	if f.Num != 0 {
		numbers = append(numbers, new(big.Rat).Inv(rat(f)), new(big.Rat).Mul(big.NewRat(k, 7), new(big.Rat).Inv(rat(f))))
	}
	var list []api.Fraction
	for _, x := range numbers {
		if g, err := specOf(x); err == api.OK {
			list = append(list, g)
		}
	}
	return list
}

// E6: all texts of up to 6 bytes from some, and joins of texts of terms.
func TestTextsAsSpecified(t *testing.T) {
	var all func(text string, left int)
	all = func(text string, left int) {
		testParse(t, text)
		if left == 0 {
			return
		}
		for _, c := range "-/+01246" {
			all(text+string(c), left-1)
		}
	}
	all("", 6)
	terms := []string{"", "-", "0", "00", "1", "01", "-1", "+1", "3", "9", "9999999999999999999999"}
	for _, n := range edges() {
		terms = append(terms, big.NewInt(int64(n)).String(), new(big.Int).Mul(big.NewInt(int64(n)), big.NewInt(16)).String())
	}
	for _, first := range terms {
		for _, second := range terms {
			for _, between := range []string{"", "/", "//", " ", "/0", "-"} {
				testParse(t, first+between+second)
			}
		}
	}
}

// E6: one byte of a text is replaced, removed or put in.
func TestDamagedTextsAsSpecified(t *testing.T) {
	for _, text := range []string{"0", "7", "-12", "3/2", "-10/21", "4611686018427387904", "-4611686018427387904/3", "1/4611686018427387904"} {
		for at := range len(text) + 1 {
			for c := range 256 {
				testParse(t, text[:at]+string([]byte{byte(c)})+text[at:])
				if at < len(text) {
					testParse(t, text[:at]+string([]byte{byte(c)})+text[at+1:])
					testParse(t, text[:at]+text[at+1:])
				}
			}
		}
	}
}
