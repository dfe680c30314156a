package date

import (
	"math"
	"slices"
	"strings"
	"testing"

	"gazetteer/api"
)

// per is a period, which need not be proper.
func per(from, until int) api.Period { return api.Period{From: from, Until: until} }

// F1, F2, F4: days that are known from elsewhere, at both ends of the calendar,
// and of years that can be divided by 4, 100 and 400.
func TestKnownDays(t *testing.T) {
	for _, test := range []struct {
		day, year, month, of, week int
		text                       string
	}{
		{0, 1800, 1, 1, 2, "1800-01-01"},
		{1, 1800, 1, 2, 3, "1800-01-02"},
		{30, 1800, 1, 31, 4, "1800-01-31"},
		{31, 1800, 2, 1, 5, "1800-02-01"},
		{58, 1800, 2, 28, 4, "1800-02-28"},
		{59, 1800, 3, 1, 5, "1800-03-01"},
		{364, 1800, 12, 31, 2, "1800-12-31"},
		{365, 1801, 1, 1, 3, "1801-01-01"},
		{1460, 1804, 1, 1, 6, "1804-01-01"},
		{1518, 1804, 2, 28, 1, "1804-02-28"},
		{1519, 1804, 2, 29, 2, "1804-02-29"},
		{1520, 1804, 3, 1, 3, "1804-03-01"},
		{1825, 1804, 12, 31, 0, "1804-12-31"},
		{35122, 1896, 2, 29, 5, "1896-02-29"},
		{36523, 1899, 12, 31, 6, "1899-12-31"},
		{36524, 1900, 1, 1, 0, "1900-01-01"},
		{36582, 1900, 2, 28, 2, "1900-02-28"},
		{36583, 1900, 3, 1, 3, "1900-03-01"},
		{36888, 1900, 12, 31, 0, "1900-12-31"},
		{38043, 1904, 2, 29, 0, "1904-02-29"},
		{62091, 1970, 1, 1, 3, "1970-01-01"},
		{73047, 1999, 12, 31, 4, "1999-12-31"},
		{73048, 2000, 1, 1, 5, "2000-01-01"},
		{73078, 2000, 1, 31, 0, "2000-01-31"},
		{73106, 2000, 2, 28, 0, "2000-02-28"},
		{73107, 2000, 2, 29, 1, "2000-02-29"},
		{73108, 2000, 3, 1, 2, "2000-03-01"},
		{73413, 2000, 12, 31, 6, "2000-12-31"},
		{73414, 2001, 1, 1, 0, "2001-01-01"},
		{82867, 2026, 11, 19, 3, "2026-11-19"},
		{99405, 2072, 2, 29, 0, "2072-02-29"},
		{99984, 2073, 9, 30, 5, "2073-09-30"},
		{99985, 2073, 10, 1, 6, "2073-10-01"},
		{99999, 2073, 10, 15, 6, "2073-10-15"},
		{100000, 2073, 10, 16, 0, "2073-10-16"},
	} {
		if n, err := Make(test.year, test.month, test.of); n != test.day || err != api.OK {
			t.Errorf("Make of %s: %d, %d, want %d", test.text, n, err, test.day)
		}
		if y, m, d, err := Split(test.day); y != test.year || m != test.month || d != test.of || err != api.OK {
			t.Errorf("Split of %d: %d, %d, %d, %d", test.day, y, m, d, err)
		}
		if w, err := Weekday(test.day); w != test.week || err != api.OK {
			t.Errorf("Weekday of %s: %d, %d, want %d", test.text, w, err, test.week)
		}
		if s, err := Text(test.day); s != test.text || err != api.OK {
			t.Errorf("Text of %d: %q, %d, want %q", test.day, s, err, test.text)
		}
		if n, err := Parse(test.text); n != test.day || err != api.OK {
			t.Errorf("Parse of %q: %d, %d, want %d", test.text, n, err, test.day)
		}
	}
}

// F1: the year is asked first, then the month and the day of the month, then
// whether the day is within the calendar.
func TestNoSuchDate(t *testing.T) {
	for _, test := range []struct {
		year, month, day int
		err              api.Errno
	}{
		{1799, 12, 31, api.ErrRange},
		{2074, 1, 1, api.ErrRange},
		{0, 1, 1, api.ErrRange},
		{-2000, 1, 1, api.ErrRange},
		{math.MinInt, 1, 1, api.ErrRange},
		{math.MaxInt, 1, 1, api.ErrRange},
		{1799, 13, 1, api.ErrRange},
		{2074, 1, 32, api.ErrRange},
		{math.MaxInt, math.MaxInt, math.MaxInt, api.ErrRange},
		{2000, 0, 1, api.ErrArg},
		{2000, 13, 1, api.ErrArg},
		{2000, -1, 1, api.ErrArg},
		{2000, math.MinInt, 1, api.ErrArg},
		{2000, math.MaxInt, 1, api.ErrArg},
		{2000, 1, 0, api.ErrArg},
		{2000, 1, -1, api.ErrArg},
		{2000, 1, math.MinInt, api.ErrArg},
		{2000, 1, math.MaxInt, api.ErrArg},
		{2000, 1, 32, api.ErrArg},
		{2000, 2, 30, api.ErrArg},
		{2001, 2, 29, api.ErrArg},
		{1800, 2, 29, api.ErrArg},
		{1900, 2, 29, api.ErrArg},
		{2000, 3, 32, api.ErrArg},
		{2000, 4, 31, api.ErrArg},
		{2000, 5, 32, api.ErrArg},
		{2000, 6, 31, api.ErrArg},
		{2000, 7, 32, api.ErrArg},
		{2000, 8, 32, api.ErrArg},
		{2000, 9, 31, api.ErrArg},
		{2000, 10, 32, api.ErrArg},
		{2000, 11, 31, api.ErrArg},
		{2000, 12, 32, api.ErrArg},
		{2073, 13, 1, api.ErrArg},
		{2073, 11, 31, api.ErrArg},
		{2073, 12, 0, api.ErrArg},
		{2073, 10, 32, api.ErrArg},
		{2073, 10, 17, api.ErrRange},
		{2073, 10, 31, api.ErrRange},
		{2073, 11, 1, api.ErrRange},
		{2073, 12, 31, api.ErrRange},
	} {
		if n, err := Make(test.year, test.month, test.day); n != 0 || err != test.err {
			t.Errorf("Make(%d, %d, %d): %d, %d, want %d", test.year, test.month, test.day, n, err, test.err)
		}
	}
}

// F2 to F5: what is no day has nothing, whatever else is asked.
func TestNoDays(t *testing.T) {
	for _, day := range []int{math.MinInt, math.MinInt + 1, -top, -7, -1, top + 1, top + 2, 2 * top, math.MaxInt - 1, math.MaxInt} {
		if y, m, d, err := Split(day); y != 0 || m != 0 || d != 0 || err != api.ErrArg {
			t.Errorf("Split of %d: %d, %d, %d, %d", day, y, m, d, err)
		}
		if w, err := Weekday(day); w != 0 || err != api.ErrArg {
			t.Errorf("Weekday of %d: %d, %d", day, w, err)
		}
		if s, err := Text(day); s != "" || err != api.ErrArg {
			t.Errorf("Text of %d: %q, %d", day, s, err)
		}
		for _, n := range []int{0, 1, -1, 5000, -5000, math.MinInt, math.MaxInt} {
			if m, err := Months(day, n); m != 0 || err != api.ErrArg {
				t.Errorf("Months(%d, %d): %d, %d", day, n, m, err)
			}
		}
		if Covers(per(0, -1), day) || Covers(per(0, top), day) || Covers(per(day, -1), day) || Covers(per(0, day), 0) && day != -1 {
			t.Errorf("%d is covered", day)
		}
	}
}

// F3: the ends of months, months with fewer days, and both ends of the calendar.
func TestKnownMonths(t *testing.T) {
	for _, test := range []struct {
		day, n, want int
		err          api.Errno
	}{
		{73078, 0, 73078, api.OK},
		{73078, 1, 73107, api.OK}, // to 29 February
		{73078, -1, 73047, api.OK},
		{73078, 2, 73138, api.OK}, // to 31 March
		{73078, 3, 73168, api.OK}, // to 30 April
		{73078, 13, 73472, api.OK},
		{73107, 12, 73472, api.OK}, // to 28 February
		{73107, -12, 72741, api.OK},
		{73107, 48, 74568, api.OK},
		{73107, -1200, 36582, api.OK},
		{73107, 1, 73136, api.OK}, // to 29 March
		{73138, -1, 73107, api.OK},
		{73047, 2, 73107, api.OK}, // over the end of a year
		{73108, -3, 73017, api.OK},
		{0, 0, 0, api.OK},
		{0, 3285, 99985, api.OK},
		{15, 3285, top, api.OK},
		{16, 3285, 0, api.ErrRange},
		{30, 3285, 0, api.ErrRange},
		{30, 3284, 99984, api.OK}, // to 30 September
		{0, 3286, 0, api.ErrRange},
		{0, 3287, 0, api.ErrRange},
		{0, 3288, 0, api.ErrRange},
		{0, -1, 0, api.ErrRange},
		{30, -1, 0, api.ErrRange},
		{31, -1, 0, api.OK},
		{31, -2, 0, api.ErrRange},
		{top, 0, top, api.OK},
		{top, 1, 0, api.ErrRange},
		{99985, 1, 0, api.ErrRange},
		{99984, 1, 0, api.ErrRange}, // to 30 October
		{top, -3285, 15, api.OK},
		{top, -3286, 0, api.ErrRange},
		{5, math.MaxInt, 0, api.ErrRange},
		{5, math.MinInt, 0, api.ErrRange},
		{top, math.MaxInt, 0, api.ErrRange},
		{top, math.MinInt, 0, api.ErrRange},
		{top, math.MaxInt - 3285, 0, api.ErrRange},
		{5, 1 << 62, 0, api.ErrRange},
		{5, -1 << 62, 0, api.ErrRange},
		{-1, 1, 0, api.ErrArg},
		{top + 1, -12, 0, api.ErrArg},
		{-1, math.MinInt, 0, api.ErrArg},
		{top + 1, math.MaxInt, 0, api.ErrArg},
	} {
		if got, err := Months(test.day, test.n); got != test.want || err != test.err {
			t.Errorf("Months(%d, %d): %d, %d, want %d, %d", test.day, test.n, got, err, test.want, test.err)
		}
	}
}

// F4
func TestNoTexts(t *testing.T) {
	for _, text := range []string{
		"", "-", "--", "2000", "2000-01", "2000-01-", "20000101", "2000-0101", "200001-01",
		"2000-1-1", "2000-01-1", "2000-1-01", "2000-001-01", "2000-01-001", "02000-01-01", "200-01-001", "20000-1-01", "2000-01-011",
		"2000-00-01", "2000-13-01", "2000-01-00", "2000-01-32", "2000-02-30", "1900-02-29", "1800-02-29", "2001-02-29", "2000-04-31", "2000-06-31", "2000-09-31", "2000-11-31",
		"1799-12-31", "2073-10-17", "2073-10-31", "2073-11-01", "2073-12-31", "2074-01-01", "0000-01-01", "9999-12-31",
		"2000/01/01", "2000-01/01", "2000.01.01", "2000 01 01", "2000_01_01", "2000-01:01",
		" 2000-01-01", "2000-01-01 ", "2000-01-01\n", "2000-01-01\x00", "\x002000-01-01", "2000- 1-01", "2000-01- 1", "2000-1 -01",
		"+200-01-01", "-200-01-01", "2000-+1-01", "2000--1-01", "2000-01-+1", "2000-01--1", "-2000-01-01", "+2000-01-01",
		"2_00-01-01", "2000-1_-01", "0x10-01-01", "2e03-01-01", "2000-0a-01", "2000-01-0a", "200o-01-01", "２000-01-01", "2000–01–01", "2000-01-01-01", "01-01-2000", "\xff000-01-01",
		strings.Repeat("2000-01-01", 2), strings.Repeat("0", 100000), "99999999999999999999-01-01",
	} {
		if n, err := Parse(text); n != 0 || err != api.ErrSyntax {
			t.Errorf("Parse of %q: %d, %d", text, n, err)
		}
	}
}

// improper returns periods that are not proper.
func improper() []api.Period {
	return []api.Period{
		{}, per(1, 1), per(5, 5), per(5, 4), per(5, 0), per(top, top), per(top, 0), per(99999, 99998),
		per(-1, -1), per(-1, 5), per(-1, top), per(-2, -1), per(math.MinInt, -1), per(math.MinInt, 5),
		per(top+1, -1), per(top+1, top+2), per(top+2, -1), per(math.MaxInt, -1), per(math.MaxInt-1, math.MaxInt),
		per(0, -2), per(5, -2), per(top, -2), per(5, math.MinInt), per(-3, -2), per(-3, 0),
		per(0, top+1), per(top, top+1), per(5, top+2), per(5, math.MaxInt), per(math.MinInt, math.MaxInt), per(math.MinInt, math.MinInt),
	}
}

// F5
func TestKnownPeriods(t *testing.T) {
	for _, p := range []api.Period{per(0, 1), per(0, -1), per(0, top), per(5, 6), per(5, -1), per(3, 9), per(99998, 99999), per(99999, top), per(99999, -1), per(top, -1)} {
		if !Proper(p) {
			t.Errorf("%v is not proper", p)
		}
	}
	for _, p := range improper() {
		if Proper(p) {
			t.Errorf("%v is proper", p)
		}
		for _, day := range edges() {
			if Covers(p, day) {
				t.Errorf("%v covers %d", p, day)
			}
		}
	}
	for _, test := range []struct {
		p   api.Period
		day int
		is  bool
	}{
		{per(3, 5), 2, false}, {per(3, 5), 3, true}, {per(3, 5), 4, true}, {per(3, 5), 5, false}, {per(3, 5), 6, false},
		{per(3, -1), 2, false}, {per(3, -1), 3, true}, {per(3, -1), 50000, true}, {per(3, -1), top, true}, {per(3, -1), top + 1, false},
		{per(0, 1), -1, false}, {per(0, 1), 0, true}, {per(0, 1), 1, false},
		{per(99999, top), 99998, false}, {per(99999, top), 99999, true}, {per(99999, top), top, false},
		{per(top, -1), 99999, false}, {per(top, -1), top, true}, {per(top, -1), top + 1, false},
		{per(0, -1), math.MinInt, false}, {per(0, -1), -1, false}, {per(0, -1), 0, true}, {per(0, -1), math.MaxInt, false},
	} {
		if got := Covers(test.p, test.day); got != test.is {
			t.Errorf("Covers of %v and %d: %t", test.p, test.day, got)
		}
	}
}

// F6
func TestKnownCommonDays(t *testing.T) {
	for _, test := range []struct {
		p, q, want api.Period
		is         bool
	}{
		{per(1, 5), per(3, 9), per(3, 5), true},
		{per(1, 9), per(3, 5), per(3, 5), true},
		{per(1, 5), per(1, 5), per(1, 5), true},
		{per(1, 5), per(1, 9), per(1, 5), true},
		{per(1, 9), per(5, 9), per(5, 9), true},
		{per(1, 5), per(4, 9), per(4, 5), true},
		{per(1, 5), per(5, 9), per(0, 0), false}, // they touch
		{per(1, 5), per(6, 9), per(0, 0), false},
		{per(1, -1), per(3, -1), per(3, -1), true},
		{per(1, -1), per(3, 9), per(3, 9), true},
		{per(5, -1), per(3, 9), per(5, 9), true},
		{per(9, -1), per(3, 9), per(0, 0), false},
		{per(8, -1), per(3, 9), per(8, 9), true},
		{per(1, -1), per(0, top), per(1, top), true},
		{per(0, -1), per(0, -1), per(0, -1), true},
		{per(0, top), per(0, top), per(0, top), true},
		{per(top, -1), per(0, -1), per(top, -1), true},
		{per(top, -1), per(0, top), per(0, 0), false},
		{per(99999, -1), per(0, top), per(99999, top), true},
	} {
		for _, pair := range [][2]api.Period{{test.p, test.q}, {test.q, test.p}} {
			if got, is := Common(pair[0], pair[1]); got != test.want || is != test.is {
				t.Errorf("Common of %v and %v: %v, %t", pair[0], pair[1], got, is)
			}
		}
	}
	for _, p := range improper() {
		for _, q := range append(improper(), per(0, -1), per(0, top), per(5, 6), per(top, -1)) {
			if got, is := Common(p, q); got != per(0, 0) || is {
				t.Errorf("Common of %v and %v: %v, %t", p, q, got, is)
			}
			if got, is := Common(q, p); got != per(0, 0) || is {
				t.Errorf("Common of %v and %v: %v, %t", q, p, got, is)
			}
		}
	}
}

// F7: periods that touch, overlap, lie in one another, or come several times.
func TestKnownUnions(t *testing.T) {
	type list = []api.Period
	for _, test := range []struct{ l, want list }{
		{nil, nil},
		{list{}, nil},
		{list{per(3, 5)}, list{per(3, 5)}},
		{list{per(0, top)}, list{per(0, top)}},
		{list{per(top, -1)}, list{per(top, -1)}},
		{list{per(5, 9), per(9, 12), per(1, 3)}, list{per(1, 3), per(5, 12)}},
		{list{per(1, 3), per(3, 5)}, list{per(1, 5)}},
		{list{per(3, 5), per(1, 3)}, list{per(1, 5)}},
		{list{per(1, 3), per(4, 5)}, list{per(1, 3), per(4, 5)}},
		{list{per(4, 5), per(1, 3)}, list{per(1, 3), per(4, 5)}},
		{list{per(1, 4), per(2, 6)}, list{per(1, 6)}},
		{list{per(1, 9), per(2, 3), per(4, 9)}, list{per(1, 9)}},
		{list{per(2, 3), per(1, 9), per(12, 14)}, list{per(1, 9), per(12, 14)}},
		{list{per(1, 9), per(2, 3), per(5, 7), per(10, 11)}, list{per(1, 9), per(10, 11)}},
		{list{per(1, 3), per(1, 9), per(1, 5)}, list{per(1, 9)}},
		{list{per(1, 2), per(3, 4), per(1, 2), per(3, 4)}, list{per(1, 2), per(3, 4)}},
		{list{per(1, 2), per(3, 4), per(2, 3)}, list{per(1, 4)}},
		{list{per(0, 1), per(2, 3), per(4, 5), per(6, -1)}, list{per(0, 1), per(2, 3), per(4, 5), per(6, -1)}},
		{list{per(1, -1), per(0, 1), per(7, 9)}, list{per(0, -1)}},
		{list{per(7, 9), per(8, -1), per(top, -1)}, list{per(7, -1)}},
		{list{per(5, -1), per(5, 6), per(7, top)}, list{per(5, -1)}},
		{list{per(0, top), per(top, -1)}, list{per(0, -1)}},
		{list{per(0, 99999), per(top, -1)}, list{per(0, 99999), per(top, -1)}},
		{list{per(0, top), per(99999, -1)}, list{per(0, -1)}},
	} {
		if got, err := Union(test.l); !slices.Equal(got, test.want) || err != api.OK {
			t.Errorf("Union of %v: %v, %d, want %v", test.l, got, err, test.want)
		}
	}
}

// F7: whether there are too many is asked before whether they are proper.
func TestNoUnions(t *testing.T) {
	full := slices.Repeat([]api.Period{per(1, 2)}, 1000)
	if got, err := Union(full); !slices.Equal(got, []api.Period{per(1, 2)}) || err != api.OK {
		t.Errorf("Union of 1000 periods: %v, %d", got, err)
	}
	var apart []api.Period
	for i := range 1000 {
		apart = append(apart, per(100*i, 100*i+99))
	}
	if got, err := Union(apart); !slices.Equal(got, apart) || err != api.OK {
		t.Errorf("Union of 1000 periods that do not touch: %d of them, %d", len(got), err)
	}
	for _, p := range append(improper(), per(1, 2)) {
		for _, more := range []int{1, 2, 5000} {
			l := append(slices.Repeat([]api.Period{p}, more), full...)
			if got, err := Union(l); len(got) != 0 || err != api.ErrLimit {
				t.Errorf("Union of %d times %v and 1000 others: %v, %d", more, p, got, err)
			}
		}
	}
	for _, p := range improper() {
		for _, at := range []int{0, 1, 500, 999} {
			l := slices.Clone(full)
			l[at] = p
			if got, err := Union(l); len(got) != 0 || err != api.ErrArg {
				t.Errorf("Union of 1000 periods with %v: %v, %d", p, got, err)
			}
		}
		for _, l := range [][]api.Period{{p}, {p, per(0, -1)}, {per(0, -1), p}, {per(1, 2), p, per(5, 6)}} {
			if got, err := Union(l); len(got) != 0 || err != api.ErrArg {
				t.Errorf("Union of %v: %v, %d", l, got, err)
			}
		}
	}
}
