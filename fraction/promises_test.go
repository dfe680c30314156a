package fraction

import (
	"math"
	"math/rand"
	"testing"

	"gazetteer/api"
)

// small returns all valid fractions with terms up to n.
func small(n int) []api.Fraction {
	var list []api.Fraction
	for num := -n; num <= n; num++ {
		for den := 1; den <= n; den++ {
			if specValid(fr(num, den)) {
				list = append(list, fr(num, den))
			}
		}
	}
	return list
}

// triples passes on three valid fractions each: all small ones, random ones, and
// ones near the limits, whose sums and products are often beyond them.
func triples(check func(f, g, h api.Fraction)) {
	list := append(small(4), fr(top, 1), fr(-top, 1), fr(1, top), fr(-1, top), fr(top, top-1), fr(1-top, top), fr(top/2, 1), fr(-1, top/2))
	for _, f := range list {
		for _, g := range list {
			for _, h := range list {
				check(f, g, h)
			}
		}
	}
	r := rand.New(rand.NewSource(3))
	for range 20000 {
		check(randomValid(r), randomValid(r), randomValid(r))
		check(limited(r, 1000000), limited(r, 1000000), limited(r, 1000000))
		den := r.Intn(top) + 1
		check(over(r, den), over(r, den), over(r, den))
	}
}

// limited returns a valid fraction with terms up to n.
func limited(r *rand.Rand, n int) api.Fraction {
	for {
		if f := fr(r.Intn(2*n+1)-n, r.Intn(n)+1); specValid(f) {
			return f
		}
	}
}

// over returns a valid fraction, which is a quotient by a number.
func over(r *rand.Rand, den int) api.Fraction {
	num := r.Intn(top + 1)
	if r.Intn(2) == 0 {
		num = -num
	}
	f, err := specOf(rat(fr(num, den)))
	if err != api.OK { // both terms are within the limits
		panic("no fraction")
	}
	return f
}

// results collects what calls return, as long as none has an error.
type results struct{ failed bool }

func (r *results) of(do func(f, g api.Fraction) (api.Fraction, api.Errno), f, g api.Fraction) api.Fraction {
	h, err := do(f, g)
	r.failed = r.failed || err != api.OK
	return h
}

// P5.2: the order of two, and of three.
func TestOrderOfOperands(t *testing.T) {
	triples(func(f, g, h api.Fraction) {
		for name, do := range map[string]func(f, g api.Fraction) (api.Fraction, api.Errno){"Add": Add, "Mul": Mul} {
			one, oneErr := do(f, g)
			if two, twoErr := do(g, f); one != two || oneErr != twoErr {
				t.Fatalf("%s of %v and %v: %v, %d, and %v, %d", name, f, g, one, oneErr, two, twoErr)
			}
			var r results
			sums := [3]api.Fraction{r.of(do, r.of(do, f, g), h), r.of(do, f, r.of(do, g, h)), r.of(do, r.of(do, f, h), g)}
			if !r.failed && (sums[0] != sums[1] || sums[1] != sums[2]) {
				t.Fatalf("%s of %v, %v and %v: %v", name, f, g, h, sums)
			}
		}
	})
}

// P5.2: a product with a sum.
func TestProductsWithSums(t *testing.T) {
	triples(func(f, g, h api.Fraction) {
		var r results
		one := r.of(Mul, f, r.of(Add, g, h))
		two := r.of(Add, r.of(Mul, f, g), r.of(Mul, f, h))
		if !r.failed && one != two {
			t.Fatalf("%v with the sum of %v and %v: %v and %v", f, g, h, one, two)
		}
	})
}

// all returns valid fractions of all sizes.
func all() []api.Fraction {
	list := append(small(40), valids()...)
	r := rand.New(rand.NewSource(4))
	for range 5000 {
		list = append(list, randomValid(r))
	}
	return list
}

// P5.2: opposites, 0 and 1.
func TestOppositesAndOne(t *testing.T) {
	for _, f := range all() {
		if sum, err := Add(f, fr(-f.Num, f.Den)); sum != fr(0, 1) || err != api.OK {
			t.Errorf("%v and its opposite: %v, %d", f, sum, err)
		}
		if sum, err := Add(f, fr(0, 1)); sum != f || err != api.OK {
			t.Errorf("%v and 0: %v, %d", f, sum, err)
		}
		if product, err := Mul(f, fr(1, 1)); product != f || err != api.OK {
			t.Errorf("%v by 1: %v, %d", f, product, err)
		}
		if product, err := Mul(f, fr(-1, 1)); product != fr(-f.Num, f.Den) || err != api.OK {
			t.Errorf("%v by -1: %v, %d", f, product, err)
		}
		if f.Num != 0 {
			if product, err := Mul(f, inverse(f)); product != fr(1, 1) || err != api.OK {
				t.Errorf("%v by its reciprocal: %v, %d", f, product, err)
			}
		}
	}
}

// inverse returns the reciprocal of a fraction, which is not 0.
func inverse(f api.Fraction) api.Fraction {
	if f.Num < 0 {
		return fr(-f.Den, -f.Num)
	}
	return fr(f.Den, f.Num)
}

// order fails the test if two valid fractions have no order.
func order(t *testing.T, f, g api.Fraction) int {
	t.Helper()
	n, err := Compare(f, g)
	if n < -1 || n > 1 || err != api.OK {
		t.Fatalf("Compare of %v and %v: %d, %d", f, g, n, err)
	}
	return n
}

// P5.3: a total order, in which just equal fractions are equal.
func TestTotalOrder(t *testing.T) {
	triples(func(f, g, h api.Fraction) {
		first := order(t, f, g)
		if (first == 0) != (f == g) || order(t, g, f) != -first {
			t.Fatalf("%v and %v are ordered by %d", f, g, first)
		}
		if first <= 0 && order(t, g, h) <= 0 && order(t, f, h) > 0 {
			t.Fatalf("%v, %v and %v are ordered in a circle", f, g, h)
		}
	})
}

// P5.3: sums are ordered as the numbers are.
func TestOrderOfSums(t *testing.T) {
	triples(func(f, g, h api.Fraction) {
		var r results
		one, two := r.of(Add, f, h), r.of(Add, g, h)
		if !r.failed && order(t, one, two) != order(t, f, g) {
			t.Fatalf("%v and %v, with %v: ordered by %d", f, g, h, order(t, one, two))
		}
	})
}

// P5.4
func TestFloors(t *testing.T) {
	for _, f := range all() {
		n, err := Floor(f)
		if err != api.OK || order(t, fr(n, 1), f) > 0 {
			t.Errorf("Floor of %v: %d, %d", f, n, err)
		}
		if next := fr(n+1, 1); Valid(next) && order(t, next, f) <= 0 {
			t.Errorf("Floor of %v: %d is not the greatest", f, n)
		}
		if f.Den == 1 && n != f.Num {
			t.Errorf("Floor of %v: %d", f, n)
		}
	}
}

// P5.5: fractions are read again, and no two have one text.
func TestTexts(t *testing.T) {
	texts := map[string]api.Fraction{}
	for _, f := range all() {
		s, err := Text(f)
		if g, twice := texts[s]; err != api.OK || twice && f != g {
			t.Errorf("Text of %v: %q, %d, as of %v", f, s, err, g)
		}
		texts[s] = f
		if g, err := Parse(s); g != f || err != api.OK {
			t.Errorf("Parse of %q, of %v: %v, %d", s, f, g, err)
		}
	}
}

// P5.5: a text that is accepted is the text of its result.
func TestAcceptedTexts(t *testing.T) {
	accepted := 0
	var visit func(text string, left int)
	visit = func(text string, left int) {
		if f, err := Parse(text); err == api.OK {
			accepted++
			if s, err := Text(f); s != text || err != api.OK {
				t.Errorf("Parse of %q: %v, whose text is %q", text, f, s)
			}
		} else if err != api.ErrSyntax || f != fr(0, 0) {
			t.Errorf("Parse of %q: %v, %d", text, f, err)
		}
		if left > 0 {
			for _, c := range "-/+0139 " {
				visit(text+string(c), left-1)
			}
		}
	}
	visit("", 5)
	if accepted < 500 {
		t.Errorf("%d texts were accepted", accepted)
	}
}

// testResult fails the test if what a call returns is neither valid nor the
// zero value with an error (P5.6).
func testResult(t *testing.T, f api.Fraction, err api.Errno) {
	t.Helper()
	if err == api.OK && !specValid(f) || err != api.OK && f != fr(0, 0) {
		t.Fatalf("the result is %v, %d", f, err)
	}
}

// P5.6, and P1: any int may be a term.
func TestResultsAreValid(t *testing.T) {
	check := func(a, b, c, d int) {
		f, err := Of(a, b)
		testResult(t, f, err)
		f, err = Add(fr(a, b), fr(c, d))
		testResult(t, f, err)
		f, err = Mul(fr(a, b), fr(c, d))
		testResult(t, f, err)
	}
	for _, a := range edges() {
		for _, b := range edges() {
			for _, c := range []int{0, 1, -1, 3, top, math.MinInt} {
				check(a, b, c, 1)
				check(a, b, c, 2)
				check(a, b, c, top)
				check(a, b, b, c)
				check(c, top-1, a, b)
			}
		}
	}
	r := rand.New(rand.NewSource(5))
	for range 100000 {
		check(random(r), random(r), random(r), random(r))
	}
	triples(func(f, g, h api.Fraction) {
		check(f.Num, f.Den, g.Num, g.Den)
	})
}

// P5.6: terms up to 1000000000.
func TestModestTermsHaveResults(t *testing.T) {
	const billion = 1000000000
	check := func(f, g api.Fraction) {
		if h, err := Add(f, g); err != api.OK {
			t.Fatalf("Add of %v and %v: %v, %d", f, g, h, err)
		}
		if h, err := Mul(f, g); err != api.OK {
			t.Fatalf("Mul of %v and %v: %v, %d", f, g, h, err)
		}
	}
	var list []api.Fraction
	for _, num := range []int{0, 1, 2, 999999937, billion - 3, billion - 2, billion - 1, billion} {
		for _, den := range []int{1, 2, 3, 999999937, billion - 3, billion - 2, billion - 1, billion} {
			for _, f := range []api.Fraction{fr(num, den), fr(-num, den)} {
				if specValid(f) {
					list = append(list, f)
				}
			}
		}
	}
	for _, f := range list {
		for _, g := range list {
			check(f, g)
		}
	}
	r := rand.New(rand.NewSource(6))
	for range 50000 {
		check(limited(r, billion), limited(r, billion))
	}
}

// P3: what was called before makes no difference.
func TestEqualArgumentsHaveEqualResults(t *testing.T) {
	list := append(valids(), invalid()...)
	compute := func(f api.Fraction) [13]any {
		of, err1 := Of(f.Num, f.Den)
		sum, err2 := Add(f, fr(1, 3))
		product, err3 := Mul(f, fr(-2, 3))
		order, err4 := Compare(f, fr(1, 2))
		floor, err5 := Floor(f)
		text, err6 := Text(f)
		return [13]any{Valid(f), of, err1, sum, err2, product, err3, order, err4, floor, err5, text, err6}
	}
	var before [][13]any
	for _, f := range list {
		before = append(before, compute(f))
	}
	for i := len(list) - 1; i >= 0; i-- {
		if compute(list[i]) != before[i] {
			t.Errorf("%v has different results", list[i])
		}
	}
}
