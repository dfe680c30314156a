package fraction

import (
	"math"
	"strings"
	"testing"

	"gazetteer/api"
)

// top is written out, so that a changed limit would be noticed.
const top = 4611686018427387904

// fr is a fraction, which need not be valid.
func fr(num, den int) api.Fraction { return api.Fraction{Num: num, Den: den} }

// E1: both limits, and just one form of each number.
func TestKnownValid(t *testing.T) {
	for _, f := range []api.Fraction{
		fr(0, 1), fr(1, 1), fr(-1, 1), fr(2, 3), fr(-3, 2), fr(7, 1), fr(1, 7),
		fr(top, 1), fr(-top, 1), fr(1, top), fr(-1, top), fr(top, top-1), fr(top-1, top), fr(-top, top-1), fr(1-top, top),
	} {
		if !Valid(f) {
			t.Errorf("%v is not valid", f)
		}
	}
	for _, f := range invalid() {
		if Valid(f) {
			t.Errorf("%v is valid", f)
		}
	}
}

// invalid returns fractions that are not valid.
func invalid() []api.Fraction {
	return []api.Fraction{
		{}, fr(1, 0), fr(-1, 0), fr(top, 0), fr(math.MinInt, 0),
		fr(0, 2), fr(0, -1), fr(0, top), fr(0, math.MinInt), fr(0, math.MaxInt),
		fr(1, -1), fr(-1, -1), fr(1, -2), fr(-3, -2), fr(5, -top), fr(1, math.MinInt),
		fr(2, 2), fr(-2, 2), fr(2, 4), fr(-6, 4), fr(9, 3), fr(top, 2), fr(2, top), fr(top, top), fr(-top, top),
		fr(top+1, 1), fr(-top-1, 1), fr(1, top+1), fr(-1, top+1), fr(0, top+1), fr(top+1, top), fr(top, top+1), fr(top+1, top+2),
		fr(math.MaxInt, 1), fr(math.MinInt, 1), fr(1, math.MaxInt), fr(math.MaxInt, 2), fr(math.MinInt, math.MaxInt),
		fr(math.MinInt, math.MinInt), fr(math.MaxInt, math.MaxInt), fr(math.MinInt, 3),
	}
}

// E3 to E6: with a fraction that is not valid there is no result, whatever the
// other one is, and however great the result would be.
func TestInvalidFractions(t *testing.T) {
	others := append(invalid(), fr(0, 1), fr(1, 1), fr(-1, 2), fr(top, 1), fr(-top, 1), fr(1, top))
	for _, f := range invalid() {
		for _, g := range others {
			testNoArg(t, f, g)
			testNoArg(t, g, f)
		}
		if n, err := Floor(f); n != 0 || err != api.ErrArg {
			t.Errorf("Floor of %v: %d, %d", f, n, err)
		}
		if s, err := Text(f); s != "" || err != api.ErrArg {
			t.Errorf("Text of %v: %q, %d", f, s, err)
		}
	}
}

// testNoArg fails the test if two fractions are not both refused.
func testNoArg(t *testing.T, f, g api.Fraction) {
	t.Helper()
	if h, err := Add(f, g); h != fr(0, 0) || err != api.ErrArg {
		t.Errorf("Add of %v and %v: %v, %d", f, g, h, err)
	}
	if h, err := Mul(f, g); h != fr(0, 0) || err != api.ErrArg {
		t.Errorf("Mul of %v and %v: %v, %d", f, g, h, err)
	}
	if n, err := Compare(f, g); n != 0 || err != api.ErrArg {
		t.Errorf("Compare of %v and %v: %d, %d", f, g, n, err)
	}
}

// E2
func TestKnownQuotients(t *testing.T) {
	for _, test := range []struct {
		num, den int
		want     api.Fraction
		err      api.Errno
	}{
		{6, -4, fr(-3, 2), api.OK},
		{-6, 4, fr(-3, 2), api.OK},
		{-6, -4, fr(3, 2), api.OK},
		{6, 4, fr(3, 2), api.OK},
		{4, 6, fr(2, 3), api.OK},
		{12, 4, fr(3, 1), api.OK},
		{4, 12, fr(1, 3), api.OK},
		{7, 7, fr(1, 1), api.OK},
		{7, -7, fr(-1, 1), api.OK},
		{0, 1, fr(0, 1), api.OK},
		{0, -5, fr(0, 1), api.OK},
		{0, math.MaxInt, fr(0, 1), api.OK},
		{0, math.MinInt, fr(0, 1), api.OK},
		{0, 0, fr(0, 0), api.ErrZero},
		{1, 0, fr(0, 0), api.ErrZero},
		{math.MinInt, 0, fr(0, 0), api.ErrZero},
		{math.MaxInt, 0, fr(0, 0), api.ErrZero},
		{top, 1, fr(top, 1), api.OK},
		{-top, 1, fr(-top, 1), api.OK},
		{top, -1, fr(-top, 1), api.OK},
		{-top, -1, fr(top, 1), api.OK},
		{1, top, fr(1, top), api.OK},
		{1, -top, fr(-1, top), api.OK},
		{-1, -top, fr(1, top), api.OK},
		{top, top - 1, fr(top, top-1), api.OK},
		{1 - top, -top, fr(top-1, top), api.OK},
		{top + 1, 1, fr(0, 0), api.ErrRange},
		{-top - 1, 1, fr(0, 0), api.ErrRange},
		{top + 1, -1, fr(0, 0), api.ErrRange},
		{1, top + 1, fr(0, 0), api.ErrRange},
		{1, -top - 1, fr(0, 0), api.ErrRange},
		{-1, -top - 1, fr(0, 0), api.ErrRange},
		{top + 1, 5, fr((top+1)/5, 1), api.OK},
		{5, -top - 1, fr(-1, (top+1)/5), api.OK},
		{top + 2, 2, fr(top/2+1, 1), api.OK},
		{top + 1, top + 1, fr(1, 1), api.OK},
		{top + 1, -top - 1, fr(-1, 1), api.OK},
		{math.MinInt, 1, fr(0, 0), api.ErrRange},
		{math.MinInt, -1, fr(0, 0), api.ErrRange},
		{math.MinInt, 2, fr(-top, 1), api.OK},
		{math.MinInt, -2, fr(top, 1), api.OK},
		{math.MinInt, 3, fr(0, 0), api.ErrRange},
		{math.MinInt, -3, fr(0, 0), api.ErrRange},
		{math.MinInt, 6, fr(-top, 3), api.OK},
		{1, math.MinInt, fr(0, 0), api.ErrRange},
		{-1, math.MinInt, fr(0, 0), api.ErrRange},
		{2, math.MinInt, fr(-1, top), api.OK},
		{-2, math.MinInt, fr(1, top), api.OK},
		{-6, math.MinInt, fr(3, top), api.OK},
		{math.MinInt, math.MinInt, fr(1, 1), api.OK},
		{math.MinInt, -top, fr(2, 1), api.OK},
		{-top, math.MinInt, fr(1, 2), api.OK},
		{math.MinInt, math.MaxInt, fr(0, 0), api.ErrRange},
		{math.MaxInt, math.MinInt, fr(0, 0), api.ErrRange},
		{math.MaxInt, math.MaxInt, fr(1, 1), api.OK},
		{math.MaxInt, -math.MaxInt, fr(-1, 1), api.OK},
		{math.MaxInt, 1, fr(0, 0), api.ErrRange},
		{math.MaxInt, 7, fr(1317624576693539401, 1), api.OK},
		{-7, math.MaxInt, fr(-1, 1317624576693539401), api.OK},
	} {
		if got, err := Of(test.num, test.den); got != test.want || err != test.err {
			t.Errorf("Of(%d, %d): %v, %d, want %v, %d", test.num, test.den, got, err, test.want, test.err)
		}
	}
}

// operation is Add or Mul of two fractions with its result.
type operation struct {
	f, g, want api.Fraction
	err        api.Errno
}

// testOperation fails the test if a result is not the known one, in both orders.
func testOperation(t *testing.T, name string, do func(f, g api.Fraction) (api.Fraction, api.Errno), list []operation) {
	t.Helper()
	for _, o := range list {
		if got, err := do(o.f, o.g); got != o.want || err != o.err {
			t.Errorf("%s of %v and %v: %v, %d, want %v, %d", name, o.f, o.g, got, err, o.want, o.err)
		}
		if got, err := do(o.g, o.f); got != o.want || err != o.err {
			t.Errorf("%s of %v and %v: %v, %d, want %v, %d", name, o.g, o.f, got, err, o.want, o.err)
		}
	}
}

// E3
func TestKnownSums(t *testing.T) {
	testOperation(t, "Add", Add, []operation{
		{fr(0, 1), fr(0, 1), fr(0, 1), api.OK},
		{fr(0, 1), fr(-2, 3), fr(-2, 3), api.OK},
		{fr(1, 2), fr(-1, 2), fr(0, 1), api.OK},
		{fr(1, 6), fr(1, 3), fr(1, 2), api.OK},
		{fr(1, 2), fr(1, 3), fr(5, 6), api.OK},
		{fr(-1, 2), fr(-1, 3), fr(-5, 6), api.OK},
		{fr(1, 2), fr(-1, 3), fr(1, 6), api.OK},
		{fr(-1, 2), fr(1, 3), fr(-1, 6), api.OK},
		{fr(5, 1), fr(-7, 1), fr(-2, 1), api.OK},
		{fr(3, 4), fr(5, 6), fr(19, 12), api.OK},
		{fr(1, 12), fr(1, 4), fr(1, 3), api.OK},
		{fr(5, 6), fr(1, 6), fr(1, 1), api.OK},
		{fr(top, 1), fr(-top, 1), fr(0, 1), api.OK},
		{fr(top, top-1), fr(-top, top-1), fr(0, 1), api.OK},
		{fr(top-1, 1), fr(1, 1), fr(top, 1), api.OK},
		{fr(1-top, 1), fr(-1, 1), fr(-top, 1), api.OK},
		{fr(top, 1), fr(1, 1), fr(0, 0), api.ErrRange},
		{fr(-top, 1), fr(-1, 1), fr(0, 0), api.ErrRange},
		{fr(top, 1), fr(top, 1), fr(0, 0), api.ErrRange},
		{fr(-top, 1), fr(-top, 1), fr(0, 0), api.ErrRange},
		{fr(top, 1), fr(1, top), fr(0, 0), api.ErrRange},
		{fr(-top, 1), fr(1, top), fr(0, 0), api.ErrRange},
		{fr(1, top), fr(1, top), fr(1, top/2), api.OK},
		{fr(1, top), fr(1, top-1), fr(0, 0), api.ErrRange},
		{fr(1, top), fr(1, 3), fr(0, 0), api.ErrRange},
		{fr(1, top), fr(-1, 1), fr(1-top, top), api.OK},
		{fr(1, top), fr(1, 1), fr(0, 0), api.ErrRange},
		// too great before they are divided by their common divisor
		{fr(top-1, top), fr(1, top), fr(1, 1), api.OK},
		{fr(top-1, top), fr(3, top), fr(top/2+1, top/2), api.OK},
		{fr(top, top-1), fr(-1, top-1), fr(1, 1), api.OK},
		{fr(top, 3), fr(top, 3), fr(0, 0), api.ErrRange},
		{fr(top, 3), fr(top-2, 3), fr((top-1)/3*2, 1), api.OK},
		{fr(top, 3), fr(top/2, 3), fr(top/2, 1), api.OK},
		{fr(-top, 3), fr(-top/2, 3), fr(-top/2, 1), api.OK},
		{fr(1, 3<<60), fr(1, 3<<60), fr(1, 3<<59), api.OK},
		{fr(1, 3<<60), fr(5, 3<<60), fr(1, 1<<59), api.OK},
		{fr(1, 3<<60), fr(1, top), fr(0, 0), api.ErrRange},
		{fr(1, 3<<59), fr(1, 1<<59), fr(1, 3<<57), api.OK},
		{fr(1, 5<<59), fr(1, 5<<58), fr(3, 5<<59), api.OK},
		{fr(1, 5<<59), fr(-1, 3<<59), fr(-1, 15<<58), api.OK},
		{fr(1, 5<<59), fr(-1, 7<<58), fr(0, 0), api.ErrRange},
		{fr(1, 7<<55), fr(1, 1<<55), fr(1, 7<<52), api.OK},
	})
}

// E3
func TestKnownProducts(t *testing.T) {
	testOperation(t, "Mul", Mul, []operation{
		{fr(0, 1), fr(0, 1), fr(0, 1), api.OK},
		{fr(0, 1), fr(-2, 3), fr(0, 1), api.OK},
		{fr(0, 1), fr(-1, top), fr(0, 1), api.OK},
		{fr(0, 1), fr(top, 1), fr(0, 1), api.OK},
		{fr(1, 1), fr(-2, 3), fr(-2, 3), api.OK},
		{fr(-2, 3), fr(-3, 4), fr(1, 2), api.OK},
		{fr(2, 3), fr(-3, 2), fr(-1, 1), api.OK},
		{fr(2, 3), fr(4, 5), fr(8, 15), api.OK},
		{fr(6, 35), fr(-14, 15), fr(-4, 25), api.OK},
		{fr(top, 1), fr(2, 1), fr(0, 0), api.ErrRange},
		{fr(-top, 1), fr(2, 1), fr(0, 0), api.ErrRange},
		{fr(top/2, 1), fr(-2, 1), fr(-top, 1), api.OK},
		{fr(top/2+1, 1), fr(2, 1), fr(0, 0), api.ErrRange},
		{fr(1, top), fr(-1, 2), fr(0, 0), api.ErrRange},
		{fr(1, top/2), fr(-1, 2), fr(-1, top), api.OK},
		{fr(1, top/2+1), fr(1, 2), fr(0, 0), api.ErrRange},
		{fr(top, 1), fr(top, 1), fr(0, 0), api.ErrRange},
		{fr(-top, 1), fr(-top, 1), fr(0, 0), api.ErrRange},
		{fr(-top, 1), fr(top, 1), fr(0, 0), api.ErrRange},
		{fr(1, top), fr(1, top), fr(0, 0), api.ErrRange},
		{fr(1<<32, 1), fr(1<<32, 1), fr(0, 0), api.ErrRange}, // 2^64: its low half is 0
		{fr(1<<32, 1), fr(-1<<32, 1), fr(0, 0), api.ErrRange},
		{fr(1, 1<<32), fr(1, 1<<32), fr(0, 0), api.ErrRange},
		{fr(1<<32+1, 1), fr(1<<32-1, 1), fr(0, 0), api.ErrRange},
		{fr(1<<31, 1), fr(1<<31, 1), fr(top, 1), api.OK},
		{fr(1<<31, 1), fr(-1<<31, 1), fr(-top, 1), api.OK},
		{fr(-1<<31, 3), fr(-1<<31, 5), fr(top, 15), api.OK},
		{fr(-1, 1<<31), fr(3, 1<<31), fr(-3, top), api.OK},
		// too great before they are divided by their common divisor
		{fr(top, 1), fr(1, 2), fr(2305843009213693952, 1), api.OK},
		{fr(top, 1), fr(1, top), fr(1, 1), api.OK},
		{fr(-top, 1), fr(1, top), fr(-1, 1), api.OK},
		{fr(top, 3), fr(3, top), fr(1, 1), api.OK},
		{fr(top, top-1), fr(top-1, top), fr(1, 1), api.OK},
		{fr(-top, top-1), fr(1-top, top), fr(1, 1), api.OK},
		{fr(top, top-1), fr(top-1, 1), fr(top, 1), api.OK},
		{fr(top-1, top), fr(1, top-1), fr(1, top), api.OK},
		{fr(3<<60, 7), fr(-7, 1<<60), fr(-3, 1), api.OK},
	})
}

// E4: the second is less than the first; equal ones are never less.
func TestKnownOrder(t *testing.T) {
	for _, test := range []struct{ f, g api.Fraction }{
		{fr(1, 1), fr(0, 1)},
		{fr(0, 1), fr(-1, 1)},
		{fr(1, 1), fr(-1, 1)},
		{fr(-1, 3), fr(-1, 2)},
		{fr(1, 2), fr(1, 3)},
		{fr(2, 1), fr(5, 3)},
		{fr(1, top), fr(0, 1)},
		{fr(0, 1), fr(-1, top)},
		{fr(1, top), fr(-top, 1)},
		{fr(top, 1), fr(-top, 1)},
		{fr(top, 1), fr(top-1, 1)},
		{fr(top, 1), fr(1, top)},
		{fr(1-top, 1), fr(-top, 1)},
		{fr(1, top-1), fr(1, top)},
		{fr(-1, top), fr(-1, top-1)},
		// products that differ by 1 alone
		{fr(top-1, top), fr(top-2, top-1)},
		{fr(top-2, top-3), fr(top-1, top-2)},
		{fr(1-top, top), fr(-top, top-1)},
		// products with equal high halves, and with equal low ones
		{fr(1<<33+1, 1<<31), fr(4, 1)},
		{fr(1<<61, 1<<59-1), fr(4, 1)},
		{fr(top, 7), fr(top, 9)},
		{fr(-top, 9), fr(-top, 7)},
		{fr(1<<32, 3), fr(-1<<32, 3)},
	} {
		for _, c := range []struct {
			f, g api.Fraction
			want int
		}{{test.f, test.g, 1}, {test.g, test.f, -1}, {test.f, test.f, 0}, {test.g, test.g, 0}} {
			if got, err := Compare(c.f, c.g); got != c.want || err != api.OK {
				t.Errorf("Compare of %v and %v: %d, %d, want %d", c.f, c.g, got, err, c.want)
			}
		}
	}
}

// E5
func TestKnownFloors(t *testing.T) {
	for _, test := range []struct {
		f    api.Fraction
		want int
	}{
		{fr(0, 1), 0},
		{fr(5, 1), 5},
		{fr(-5, 1), -5},
		{fr(7, 2), 3},
		{fr(-7, 2), -4},
		{fr(-3, 2), -2},
		{fr(1, 2), 0},
		{fr(-1, 2), -1},
		{fr(2, 3), 0},
		{fr(-2, 3), -1},
		{fr(5, 3), 1},
		{fr(-5, 3), -2},
		{fr(top, 1), top},
		{fr(-top, 1), -top},
		{fr(1, top), 0},
		{fr(-1, top), -1},
		{fr(top-1, top), 0},
		{fr(1-top, top), -1},
		{fr(top, top-1), 1},
		{fr(-top, top-1), -2},
		{fr(top-1, 2), top/2 - 1},
		{fr(1-top, 2), -top / 2},
	} {
		if got, err := Floor(test.f); got != test.want || err != api.OK {
			t.Errorf("Floor of %v: %d, %d, want %d", test.f, got, err, test.want)
		}
	}
}

// E6
func TestKnownTexts(t *testing.T) {
	for _, test := range []struct {
		f    api.Fraction
		text string
	}{
		{fr(0, 1), "0"},
		{fr(1, 1), "1"},
		{fr(-1, 1), "-1"},
		{fr(4, 1), "4"},
		{fr(10, 1), "10"},
		{fr(-200, 1), "-200"},
		{fr(3, 2), "3/2"},
		{fr(-3, 2), "-3/2"},
		{fr(1, 10), "1/10"},
		{fr(-7, 1000), "-7/1000"},
		{fr(top, 1), "4611686018427387904"},
		{fr(-top, 1), "-4611686018427387904"},
		{fr(1, top), "1/4611686018427387904"},
		{fr(-1, top), "-1/4611686018427387904"},
		{fr(top, top-1), "4611686018427387904/4611686018427387903"},
		{fr(1-top, top), "-4611686018427387903/4611686018427387904"},
	} {
		if got, err := Text(test.f); got != test.text || err != api.OK {
			t.Errorf("Text of %v: %q, %d, want %q", test.f, got, err, test.text)
		}
		if got, err := Parse(test.text); got != test.f || err != api.OK {
			t.Errorf("Parse of %q: %v, %d, want %v", test.text, got, err, test.f)
		}
	}
}

// E6
func TestInvalidTexts(t *testing.T) {
	for _, text := range []string{
		// no digits
		"", "-", "/", "-/", "/-", "--", "//", "/1", "/2", "-/2", "1/", "1/-", "-1/", "x", "1/x", "x/2", "one", "NaN", "Inf", ".",
		// signs and zeros
		"-0", "+0", "+1", "--1", "1-", "-+1", "+-1", "1/-2", "1/+2", "-1/-2", "-1/+2", "0/-1", "-0/1", "-0/2",
		"00", "01", "-01", "007", "1/02", "01/2", "-03/2", "3/02", "00/1", "1/00", "0000000000000000000000001",
		// a denominator of 0, or of 1
		"1/0", "0/0", "-1/0", "0/1", "1/1", "4/1", "-4/1", "4/01", "4611686018427387904/1",
		// a common divisor
		"0/2", "0/7", "2/2", "-2/2", "2/4", "6/4", "-6/4", "9/3", "100/10", "4611686018427387904/2", "2/4611686018427387904", "4611686018427387904/4611686018427387904",
		// terms that are too great
		"4611686018427387905", "-4611686018427387905", "1/4611686018427387905", "-1/4611686018427387905", "4611686018427387905/2",
		"9223372036854775807", "-9223372036854775808", "9223372036854775808", "-9223372036854775809", "1/9223372036854775807", "1/9223372036854775808",
		"18446744073709551616", "18446744073709551617", "1/18446744073709551617", "18446744073709551617/2", "99999999999999999999", "46116860184273879040",
		// other bytes
		" 1", "1 ", "1\n", "\t1", "1 /2", "1/ 2", "1/2 ", " ", "1\x00", "\x001", "1/2\x00", "1\xff", "1_000", "1,000", "1.0", "1.5", "1e3", "0x1", "0b1", "0o1", "1'000",
		"1/2/3", "1//2", "/1/2", "1/2/", "1\\2", "1:2", "1\u20442", "\u22121", "\u0661", "\uff11", "\u00bd", "\u00b2",
	} {
		if got, err := Parse(text); got != fr(0, 0) || err != api.ErrSyntax {
			t.Errorf("Parse of %q: %v, %d", text, got, err)
		}
	}
}

// P1: long texts end as well, and are no fractions.
func TestLongTexts(t *testing.T) {
	for _, c := range []string{"0", "1", "9", "-", "/", "+", " ", "x", "1/", "\xff"} {
		text := strings.Repeat(c, 1000000)
		for _, s := range []string{text, "1" + text, text + "1", "-1/" + text, "1/2" + text} {
			if got, err := Parse(s); got != fr(0, 0) || err != api.ErrSyntax {
				t.Errorf("Parse of a text of %d bytes %q: %v, %d", len(s), c, got, err)
			}
		}
	}
}
