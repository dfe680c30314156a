package date

import (
	"math"
	"math/rand"
	"regexp"
	"slices"
	"testing"
	"time"

	"gazetteer/api"
)

// The chapter's words written down once more, as directly as possible: days with
// the calendar of package time, periods as sets of days. Nothing here is taken
// from the code under test.

// top is written out, so that a changed limit would be noticed.
const top = 100000

var specForm = regexp.MustCompile(`^[0-9]{4}-[0-9]{2}-[0-9]{2}$`)

// specDate returns the date of a number of days after 1 January 1800.
func specDate(day int) time.Time {
	return time.Date(1800, time.January, 1+day, 0, 0, 0, 0, time.UTC)
}

// on returns the number of a date, which need not be a day.
func on(year, month, day int) int {
	t := time.Date(year, time.Month(month), day, 0, 0, 0, 0, time.UTC)
	return int((t.Unix() - specDate(0).Unix()) / (24 * 60 * 60))
}

// specLast returns the last day of a month.
func specLast(year, month int) int {
	return time.Date(year, time.Month(month+1), 0, 0, 0, 0, 0, time.UTC).Day()
}

// specMake is what F1 says of Make.
func specMake(year, month, day int) (int, api.Errno) {
	if year < 1800 || year > 2073 {
		return 0, api.ErrRange
	}
	if month < 1 || month > 12 || day < 1 || day > specLast(year, month) {
		return 0, api.ErrArg
	}
	if n := on(year, month, day); n <= top {
		return n, api.OK
	}
	return 0, api.ErrRange
}

// specMonths is what F3 says of Months.
func specMonths(day, n int) (int, api.Errno) {
	if day < 0 || day > top {
		return 0, api.ErrArg
	}
	if n < -4000 || n > 4000 { // more than there are
		return 0, api.ErrRange
	}
	t := specDate(day)
	first := time.Date(t.Year(), t.Month()+time.Month(n), 1, 0, 0, 0, 0, time.UTC)
	last := specLast(first.Year(), int(first.Month()))
	got := on(first.Year(), int(first.Month()), min(t.Day(), last))
	if got < 0 || got > top {
		return 0, api.ErrRange
	}
	return got, api.OK
}

// specParse is what F4 says of Parse.
func specParse(text string) (int, api.Errno) {
	t, wrong := time.Parse("2006-01-02", text)
	if wrong != nil || !specForm.MatchString(text) {
		return 0, api.ErrSyntax
	}
	if n := on(t.Year(), int(t.Month()), t.Day()); n >= 0 && n <= top {
		return n, api.OK
	}
	return 0, api.ErrSyntax
}

// specProper is what the chapter says of proper periods.
func specProper(p api.Period) bool {
	if p.From < 0 || p.From > top {
		return false
	}
	if p.Until == -1 {
		return true
	}
	return p.Until >= 0 && p.Until <= top && p.Until > p.From
}

// specCovers is what F5 says of Covers.
func specCovers(p api.Period, day int) bool {
	if !specProper(p) || day < 0 || day > top {
		return false
	}
	return day >= p.From && (p.Until == -1 || day <= p.Until-1)
}

// specRuns returns the periods of the days that are in a set. Only at the given
// days, which are in order, do such periods begin or end.
func specRuns(days []int, in func(day int) bool) []api.Period {
	var runs []api.Period
	open := false
	for _, day := range days {
		if in(day) && !open {
			runs = append(runs, per(day, -1))
		}
		if !in(day) && open {
			runs[len(runs)-1].Until = day
		}
		open = in(day)
	}
	return runs
}

// specCuts returns the days at which one of the periods begins or ends.
func specCuts(l []api.Period) []int {
	var days []int
	for _, p := range l {
		for _, n := range []int{p.From, p.Until} {
			if n >= 0 && n <= top {
				days = append(days, n)
			}
		}
	}
	slices.Sort(days)
	return slices.Compact(days)
}

// specCommon is what F6 says of Common.
func specCommon(p, q api.Period) (api.Period, bool) {
	runs := specRuns(specCuts([]api.Period{p, q}), func(day int) bool { return specCovers(p, day) && specCovers(q, day) })
	if len(runs) == 0 {
		return per(0, 0), false
	}
	return runs[0], true
}

// specUnion is what F7 says of Union.
func specUnion(l []api.Period) ([]api.Period, api.Errno) {
	if len(l) > 1000 {
		return nil, api.ErrLimit
	}
	for _, p := range l {
		if !specProper(p) {
			return nil, api.ErrArg
		}
	}
	return specRuns(specCuts(l), func(day int) bool { return coveredByOne(l, day) }), api.OK
}

// coveredByOne reports whether a period of a list covers a day.
func coveredByOne(l []api.Period, day int) bool {
	return slices.ContainsFunc(l, func(p api.Period) bool { return specCovers(p, day) })
}

// edges returns numbers at and near the places where something changes, those
// that are no days among them.
func edges() []int {
	return []int{
		math.MinInt, math.MinInt + 1, math.MinInt32, -top - 1, -top, -400, -2, -1, 0, 1, 2, 3, 4, 27, 28, 29, 30, 31, 32, 58, 59, 60, 364, 365, 366,
		12, 13, 1799, 1800, 1801, 1900, 2000, 2073, 2074, 36523, 36524, 36582, 36583, 73107, 73108,
		top - 2, top - 1, top, top + 1, top + 2, math.MaxInt32, math.MaxInt - 1, math.MaxInt,
	}
}

// edgePeriods returns all periods between some of the edges, of which most are
// not proper.
func edgePeriods() []api.Period {
	bounds := []int{math.MinInt, -top, -2, -1, 0, 1, 2, 3, 50000, top - 1, top, top + 1, top + 2, math.MaxInt}
	var list []api.Period
	for _, from := range bounds {
		for _, until := range bounds {
			list = append(list, per(from, until))
		}
	}
	return list
}

func testMake(t *testing.T, year, month, day int) {
	t.Helper()
	want, wantErr := specMake(year, month, day)
	if got, err := Make(year, month, day); got != want || err != wantErr {
		t.Fatalf("Make(%d, %d, %d): %d, %d, want %d, %d", year, month, day, got, err, want, wantErr)
	}
}

func testMonths(t *testing.T, day, n int) {
	t.Helper()
	want, wantErr := specMonths(day, n)
	if got, err := Months(day, n); got != want || err != wantErr {
		t.Fatalf("Months(%d, %d): %d, %d, want %d, %d", day, n, got, err, want, wantErr)
	}
}

func testParse(t *testing.T, text string) {
	t.Helper()
	want, wantErr := specParse(text)
	if got, err := Parse(text); got != want || err != wantErr {
		t.Fatalf("Parse of %q: %d, %d, want %d, %d", text, got, err, want, wantErr)
	}
}

func testPair(t *testing.T, p, q api.Period) {
	t.Helper()
	want, wantIs := specCommon(p, q)
	if got, is := Common(p, q); got != want || is != wantIs {
		t.Fatalf("Common of %v and %v: %v, %t, want %v, %t", p, q, got, is, want, wantIs)
	}
}

func testUnion(t *testing.T, l []api.Period) {
	t.Helper()
	want, wantErr := specUnion(l)
	if got, err := Union(l); !slices.Equal(got, want) || err != wantErr {
		t.Fatalf("Union of %v: %v, %d, want %v, %d", l, got, err, want, wantErr)
	}
}

// F1: every month and day of the month, and more, of every year and some others;
// and each of the three numbers at the edges.
func TestMakeAsSpecified(t *testing.T) {
	for year := 1700; year <= 2200; year++ {
		for month := -1; month <= 14; month++ {
			for day := -1; day <= 33; day++ {
				testMake(t, year, month, day)
			}
		}
	}
	for _, year := range edges() {
		for _, month := range edges() {
			for _, day := range edges() {
				testMake(t, year, month, day)
			}
		}
	}
}

// F2, F4: every day.
func TestDaysAsSpecified(t *testing.T) {
	for day := range top + 1 {
		want := specDate(day)
		if y, m, d, err := Split(day); y != want.Year() || m != int(want.Month()) || d != want.Day() || err != api.OK {
			t.Fatalf("Split of %d: %d, %d, %d, %d", day, y, m, d, err)
		}
		if w, err := Weekday(day); w != (int(want.Weekday())+6)%7 || err != api.OK {
			t.Fatalf("Weekday of %d: %d, %d", day, w, err)
		}
		text := want.Format("2006-01-02")
		if s, err := Text(day); s != text || err != api.OK {
			t.Fatalf("Text of %d: %q, %d", day, s, err)
		}
		if n, err := Parse(text); n != day || err != api.OK {
			t.Fatalf("Parse of %q: %d, %d", text, n, err)
		}
	}
}

// F3: all numbers of months for days at the ends of the calendar and of months,
// and some numbers for all days.
func TestMonthsAsSpecified(t *testing.T) {
	var days []int
	for n := range 32 {
		days = append(days, n, top-n)
	}
	for _, year := range []int{1800, 1899, 1900, 1903, 1904, 1999, 2000, 2072} {
		for month := 1; month <= 12; month++ {
			days = append(days, on(year, month, 1), on(year, month, specLast(year, month)))
		}
	}
	days = append(days, on(1999, 1, 28), on(1999, 1, 29), on(1999, 1, 30), on(2000, 12, 29), on(2000, 12, 30))
	for _, day := range days {
		for n := -3300; n <= 3300; n++ {
			testMonths(t, day, n)
		}
	}
	r := rand.New(rand.NewSource(1))
	for day := range top + 1 {
		for _, n := range []int{-12, -1, 0, 1, 12, r.Intn(6601) - 3300, r.Intn(6601) - 3300} {
			testMonths(t, day, n)
		}
	}
}

// F3: numbers of months of any size, also near to what makes an int overflow.
func TestManyMonthsAsSpecified(t *testing.T) {
	for _, day := range edges() {
		for _, n := range edges() {
			testMonths(t, day, n)
		}
		for n := range 4000 {
			testMonths(t, day, math.MinInt+n)
			testMonths(t, day, math.MaxInt-n)
		}
		for bit := range 63 {
			for near := -3300; near <= 3300; near += 33 {
				testMonths(t, day, 1<<bit+near)
				testMonths(t, day, -1<<bit+near)
			}
		}
	}
}

// F4: texts of all numbers of months and days, with other digits and other bytes
// between them.
func TestTextsAsSpecified(t *testing.T) {
	two := func(n int) string { return string([]byte{byte('0' + n/10), byte('0' + n%10)}) }
	for _, year := range []string{"0000", "0001", "1752", "1799", "1800", "1801", "1900", "1904", "2000", "2001", "2072", "2073", "2074", "9999"} {
		for month := range 100 {
			for day := range 100 {
				testParse(t, year+"-"+two(month)+"-"+two(day))
			}
		}
	}
	parts := []string{"", "0", "1", "9", "00", "01", "02", "1 ", " 1", "+1", "-1", "1_", "0x", "10", "28", "29", "30", "31", "001", "180", "1800", "2000", "2073", "+180", "-180", "1_00", "01800", "18000", "१८००"}
	for _, year := range parts {
		for _, month := range parts {
			for _, day := range parts {
				for _, between := range []string{"-", "", "/", "--", " ", "–"} {
					testParse(t, year+between+month+between+day)
				}
			}
		}
	}
}

// F4: one or two bytes of a text are replaced, removed or put in.
func TestDamagedTextsAsSpecified(t *testing.T) {
	for _, text := range []string{"1800-01-01", "1804-02-29", "1900-02-28", "1999-12-31", "2000-11-30", "2000-02-29", "2073-10-16"} {
		for at := range len(text) + 1 {
			testParse(t, text[:at])
			testParse(t, text[at:])
			for c := range 256 {
				b := string([]byte{byte(c)})
				testParse(t, text[:at]+b+text[at:])
				if at == len(text) {
					continue
				}
				testParse(t, text[:at]+text[at+1:])
				testParse(t, text[:at]+b+text[at+1:])
				for other := range at {
					testParse(t, text[:other]+b+text[other+1:at]+b+text[at+1:])
					testParse(t, text[:other]+text[other+1:at]+b+text[at:])
				}
			}
		}
	}
}

// F5, F6: all pairs of periods of the edges, with all days of them.
func TestPeriodsAsSpecified(t *testing.T) {
	for _, p := range edgePeriods() {
		if got := Proper(p); got != specProper(p) {
			t.Fatalf("Proper of %v: %t", p, got)
		}
		for _, day := range append(edges(), 49998, 49999, 50000, 50001) {
			if got := Covers(p, day); got != specCovers(p, day) {
				t.Fatalf("Covers of %v and %d: %t", p, day, got)
			}
		}
		for _, q := range edgePeriods() {
			testPair(t, p, q)
		}
	}
}

// randomPeriod returns a period between numbers of some more than a count of
// days, which need not be proper if improper is true.
func randomPeriod(r *rand.Rand, days int, improper bool) api.Period {
	for {
		p := per(r.Intn(days+8)-4, r.Intn(days+8)-4)
		if r.Intn(8) == 0 {
			p.Until = -1
		}
		if r.Intn(4) == 0 {
			p.Until = p.From + r.Intn(4)
		}
		if improper || specProper(p) {
			return p
		}
	}
}

// F5, F6: periods of any days.
func TestRandomPeriodsAsSpecified(t *testing.T) {
	r := rand.New(rand.NewSource(2))
	for range 100000 {
		p, q := randomPeriod(r, top, true), randomPeriod(r, top, true)
		if got := Proper(p); got != specProper(p) {
			t.Fatalf("Proper of %v: %t", p, got)
		}
		for _, day := range []int{p.From - 1, p.From, p.From + 1, p.Until - 1, p.Until, p.Until + 1, q.From, top, r.Intn(top)} {
			if got := Covers(p, day); got != specCovers(p, day) {
				t.Fatalf("Covers of %v and %d: %t", p, day, got)
			}
		}
		testPair(t, p, q)
		testPair(t, p, per(p.Until, q.Until))
		testPair(t, p, per(q.From, p.From))
	}
}

// F7: all lists of up to three proper periods at the ends of the calendar.
func TestSmallUnionsAsSpecified(t *testing.T) {
	var all []api.Period
	for _, p := range edgePeriods() {
		if specProper(p) && p.From != 50000 && p.Until != 50000 {
			all = append(all, p)
		}
	}
	testUnion(t, nil)
	testUnion(t, []api.Period{})
	for _, p := range all {
		testUnion(t, []api.Period{p})
		for _, q := range all {
			testUnion(t, []api.Period{p, q})
			for _, u := range all {
				testUnion(t, []api.Period{p, q, u})
			}
		}
	}
}

// F7: lists of any length, among few days, so that they touch and overlap, and
// among many.
func TestUnionsAsSpecified(t *testing.T) {
	r := rand.New(rand.NewSource(3))
	for i := range 6000 {
		days := []int{6, 20, 100, 2000, top}[i%5]
		var l []api.Period
		for range r.Intn(40) {
			l = append(l, randomPeriod(r, days, r.Intn(200) == 0))
		}
		testUnion(t, l)
	}
	for _, count := range []int{998, 999, 1000, 1001, 1002, 5000} {
		for _, scale := range []struct{ days, longest int }{{20, 3}, {2000, 4}, {top, 150}} {
			var l []api.Period
			for range count {
				from := r.Intn(scale.days - scale.longest)
				l = append(l, per(from, from+1+r.Intn(scale.longest)))
			}
			testUnion(t, l)
		}
	}
}
