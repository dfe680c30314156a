package date

import (
	"math"
	"math/rand"
	"slices"
	"testing"

	"gazetteer/api"
)

// nextDate returns the date of the day after one, by the chapter's words alone.
func nextDate(year, month, of int) (int, int, int) {
	last := 31
	switch month {
	case 4, 6, 9, 11:
		last = 30
	case 2:
		last = 28
		if year%400 == 0 || year%4 == 0 && year%100 != 0 {
			last = 29
		}
	}
	if of < last {
		return year, month, of + 1
	}
	if month < 12 {
		return year, month + 1, 1
	}
	return year + 1, 1, 1
}

// P6.2, P6.3: day for day, from 1 January 1800 on; what Make accepts is nothing
// but the dates of these days.
func TestCalendarGoesOn(t *testing.T) {
	dates := map[[3]int]int{}
	year, month, of := 1800, 1, 1
	for day := range top + 1 {
		y, m, d, err := Split(day)
		if y != year || m != month || d != of || err != api.OK {
			t.Fatalf("Split of %d: %d, %d, %d, %d, want %d, %d, %d", day, y, m, d, err, year, month, of)
		}
		if n, err := Make(y, m, d); n != day || err != api.OK {
			t.Fatalf("Make(%d, %d, %d): %d, %d, want %d", y, m, d, n, err, day)
		}
		dates[[3]int{y, m, d}] = day
		year, month, of = nextDate(year, month, of)
	}
	for y := 1790; y <= 2090; y++ {
		for m := range 15 {
			for d := range 34 {
				n, err := Make(y, m, d)
				if day, is := dates[[3]int{y, m, d}]; is != (err == api.OK) || n != day {
					t.Fatalf("Make(%d, %d, %d): %d, %d", y, m, d, n, err)
				}
			}
		}
	}
}

// P6.4
func TestWeekdaysFollow(t *testing.T) {
	want := 2 // the day 0 is a Wednesday
	for day := range top + 1 {
		if w, err := Weekday(day); w != want || err != api.OK {
			t.Fatalf("Weekday of %d: %d, %d, want %d", day, w, err, want)
		}
		want++
		if want == 7 {
			want = 0
		}
	}
	for day := range top - 6 {
		now, _ := Weekday(day)
		if later, _ := Weekday(day + 7); now != later {
			t.Fatalf("Weekday of %d is not that of %d", day, day+7)
		}
	}
}

// P6.5: the month has the right number, and its day is the same or the last one.
func TestMonthsAreCounted(t *testing.T) {
	r := rand.New(rand.NewSource(4))
	for day := range top + 1 {
		year, month, of, _ := Split(day)
		for _, n := range []int{0, 1, -1, 2, 11, -12, r.Intn(400) - 200, r.Intn(6600) - 3300} {
			got, err := Months(day, n)
			if err != api.OK {
				continue // TestMonthsAsSpecified says when
			}
			y, m, d, _ := Split(got)
			if 12*y+m != 12*year+month+n {
				t.Fatalf("Months(%d, %d): %d-%d", day, n, y, m)
			}
			_, _, next, _ := Split(got + 1) // 0 behind the last day
			if d != of && (d > of || next != 1) {
				t.Fatalf("Months(%d, %d): day of the month %d instead of %d", day, n, d, of)
			}
		}
	}
}

// P6.5: months add up for days of the month up to 28.
func TestMonthsAddUp(t *testing.T) {
	r := rand.New(rand.NewSource(5))
	for range 200000 {
		day := r.Intn(top + 1)
		if _, _, of, _ := Split(day); of > 28 {
			continue
		}
		n, m := r.Intn(4000)-2000, r.Intn(4000)-2000
		between, err := Months(day, n)
		if err != api.OK {
			continue
		}
		got, gotErr := Months(between, m)
		want, wantErr := Months(day, n+m)
		if got != want || gotErr != wantErr {
			t.Fatalf("%d months after %d months after %d: %d, %d, want %d, %d", m, n, day, got, gotErr, want, wantErr)
		}
		if back, err := Months(between, -n); back != day || err != api.OK {
			t.Fatalf("%d months after %d, and back: %d, %d", n, day, back, err)
		}
	}
}

// P6.6: texts are ordered like days, and each is that of one day.
func TestTextsAreOrdered(t *testing.T) {
	before := ""
	for day := range top + 1 {
		text, err := Text(day)
		if err != api.OK || text <= before {
			t.Fatalf("Text of %d: %q, %d, after %q", day, text, err, before)
		}
		if n, err := Parse(text); n != day || err != api.OK {
			t.Fatalf("Parse of %q: %d, %d", text, n, err)
		}
		before = text
	}
}

// P6.6: what Parse accepts is the text of what it returns.
func TestAcceptedTextsAreWritten(t *testing.T) {
	r := rand.New(rand.NewSource(6))
	accepted := 0
	for range 500000 {
		text := []byte("0000-00-00")
		for i := range text {
			if text[i] == '0' {
				text[i] = "0123456789"[r.Intn(10)]
			}
		}
		copy(text, []string{"18", "19", "20"}[r.Intn(3)])
		copy(text[5:], []string{"0", "1"}[r.Intn(2)])
		copy(text[8:], []string{"0", "1", "2", "3"}[r.Intn(4)])
		if r.Intn(4) == 0 {
			text[r.Intn(10)] = " +-_/09:\x00\xff"[r.Intn(10)]
		}
		day, err := Parse(string(text))
		if err != api.OK {
			continue
		}
		accepted++
		if s, err := Text(day); s != string(text) || err != api.OK {
			t.Fatalf("Text of what Parse of %q returns: %q, %d", text, s, err)
		}
	}
	if accepted < 10000 {
		t.Errorf("only %d texts were accepted", accepted)
	}
}

// P6.7, with every day for some pairs, and both orders.
func TestCommonDaysAreCovered(t *testing.T) {
	r := rand.New(rand.NewSource(7))
	for i := range 3000 {
		days := []int{8, 60, top}[i%3]
		p, q := randomPeriod(r, days, true), randomPeriod(r, days, true)
		common, is := Common(p, q)
		other, otherIs := Common(q, p)
		if common != other || is != otherIs {
			t.Fatalf("Common of %v and %v: %v, %v", p, q, common, other)
		}
		covered := false
		for day := -5; day <= 2*days; day += 1 + days/1000 {
			both := Covers(p, day) && Covers(q, day)
			if Covers(common, day) != both {
				t.Fatalf("Common of %v and %v: %v, day %d", p, q, common, day)
			}
			covered = covered || both
		}
		if covered && !is || is != Proper(common) {
			t.Fatalf("Common of %v and %v: %v, %t", p, q, common, is)
		}
	}
}

// coveredDays returns for each number up to one behind the last day whether one
// of the periods covers it.
func coveredDays(l []api.Period) []bool {
	all := make([]bool, top+2)
	for _, p := range l {
		for day := max(p.From, 0); day <= top && Covers(p, day); day++ {
			all[day] = true
		}
	}
	return all
}

// P6.8: the same days are covered, by periods in order that do not touch.
func TestUnionsCoverTheSameDays(t *testing.T) {
	r := rand.New(rand.NewSource(8))
	for i := range 400 {
		days := []int{20, 300, 3000, top}[i%4]
		var l []api.Period
		for range r.Intn(30) {
			l = append(l, randomPeriod(r, days, false))
		}
		union, err := Union(l)
		if err != api.OK || !slices.Equal(coveredDays(l), coveredDays(union)) {
			t.Fatalf("Union of %v: %v, %d", l, union, err)
		}
		for j, p := range union {
			if !Proper(p) || j > 0 && (union[j-1].Until == -1 || union[j-1].Until >= p.From) {
				t.Fatalf("Union of %v: %v", l, union)
			}
		}
	}
}

// P6.8: order and repetition make no difference, nor does what Union returned.
func TestUnionsOfOtherOrders(t *testing.T) {
	r := rand.New(rand.NewSource(9))
	for i := range 3000 {
		var l []api.Period
		for range 1 + r.Intn(12) {
			l = append(l, randomPeriod(r, []int{10, 50, top}[i%3], false))
		}
		want, _ := Union(l)
		for range 5 {
			other := append(slices.Clone(l), l[r.Intn(len(l))], l[r.Intn(len(l))])
			r.Shuffle(len(other), func(a, b int) { other[a], other[b] = other[b], other[a] })
			if got, err := Union(other); !slices.Equal(got, want) || err != api.OK {
				t.Fatalf("Union of %v: %v, %d, but that of %v: %v", other, got, err, l, want)
			}
		}
		if got, err := Union(want); !slices.Equal(got, want) || err != api.OK {
			t.Fatalf("Union of %v: %v, %d", want, got, err)
		}
		full := slices.Repeat(l, 1000/len(l)+1)[:1000]
		full = append(full[:1000-len(l)], l...)
		if got, err := Union(full); !slices.Equal(got, want) || err != api.OK {
			t.Fatalf("Union of 1000 periods out of %v: %v, %d, want %v", l, got, err, want)
		}
	}
}

// An argument is not changed, and shares no memory with a result.
func TestUnionsAreNewMemory(t *testing.T) {
	for _, l := range [][]api.Period{
		{per(1, 2)}, {per(5, 9), per(1, 3)}, {per(1, 3), per(5, 9)}, {per(1, 3), per(2, 9)}, {per(9, 12), per(5, 9), per(1, 3), per(0, -1)}, {per(5, 9), per(5, 5), per(1, 3)},
	} {
		arg := append(make([]api.Period, 0, 10), l...)
		first, err := Union(arg)
		if !slices.Equal(arg, l) {
			t.Fatalf("Union of %v changed it: %v", l, arg)
		}
		want := slices.Clone(first)
		for i := range arg {
			arg[i] = per(70, 80)
		}
		if !slices.Equal(first, want) {
			t.Fatalf("Union of %v shares memory with it", l)
		}
		for i := range first {
			first[i] = per(90, 91)
		}
		if slices.Contains(append(first, per(90, 91)), per(70, 80)) || slices.Contains(arg[:cap(arg)], per(90, 91)) {
			t.Fatalf("Union of %v shares memory with it", l)
		}
		if again, errAgain := Union(l); !slices.Equal(again, want) || errAgain != err {
			t.Fatalf("Union of %v: %v, %d, want %v, %d", l, again, errAgain, want, err)
		}
	}
}

// results are those of all functions but Union.
type results struct {
	made, year, month, of, week, later, parsed int
	text                                       string
	proper, covers, is                         bool
	common                                     api.Period
	errs                                       [6]api.Errno
}

// P1, P3: any numbers have a result, which is that of an earlier call; what was
// called in between makes no difference.
func TestEqualArgumentsHaveEqualResults(t *testing.T) {
	compute := func(a, b, c int) results {
		var x results
		x.made, x.errs[0] = Make(a, b, c)
		x.year, x.month, x.of, x.errs[1] = Split(a)
		x.week, x.errs[2] = Weekday(a)
		x.later, x.errs[3] = Months(a, b)
		x.text, x.errs[4] = Text(a)
		x.parsed, x.errs[5] = Parse(x.text)
		x.proper, x.covers = Proper(per(a, b)), Covers(per(a, b), c)
		x.common, x.is = Common(per(a, b), per(c, math.MaxInt))
		return x
	}
	var before []results
	all := func(do func(a, b, c int)) {
		for _, a := range edges() {
			for _, b := range edges() {
				for _, c := range edges() {
					do(a, b, c)
				}
			}
		}
	}
	all(func(a, b, c int) { before = append(before, compute(a, b, c)) })
	i := 0
	all(func(a, b, c int) {
		if compute(a, b, c) != before[i] {
			t.Fatalf("%d, %d, %d have different results", a, b, c)
		}
		i++
	})
}
