package line

import (
	"slices"
	"testing"

	"gazetteer/api"
)

// corner and bay are lines about which known places are.
var (
	corner = points(5, 5, 10, 5, 10, 10)
	bay    = points(0, 0, 4, 0, 4, 4, 0, 4)
)

// valids are valid lines.
var valids = []struct {
	name string
	line []api.Point
}{
	{"two points", points(0, 0, 1, 0)},
	{"two points at opposite corners of the grid", points(0, 0, top, top)},
	{"and at the other ones", points(0, top, top, 0)},
	{"the boundary of the grid", points(0, 0, top, 0, top, top, 0, top, 0, 0)},
	{"a corner", corner},
	{"a bay", bay},
	{"three points on one straight line", points(0, 0, 1, 1, 5, 5)},
	{"there and back", points(0, 0, 1, 0, 0, 0)},
	{"there and back many times", points(3, 3, 7, 7, 3, 3, 7, 7, 3, 3, 7, 7)},
	{"there, and back in part", points(0, 0, 6, 0, 2, 0)},
	{"a circle, gone round twice", points(0, 0, 4, 0, 0, 3, 0, 0, 4, 0, 0, 3, 0, 0)},
	{"equal points with two between them", points(2, 2, 9, 2, 9, 9, 2, 2, 1, 1)},
	{"segments that cross", points(0, 0, 4, 4, 4, 0, 0, 4)},
	{"39 points", straight(39)},
	{"40 points", straight(40)},
	{"40 points, with corners", stair(40)},
}

// I1, I2, I4: valid lines, in both directions.
func TestValids(t *testing.T) {
	for _, x := range valids {
		for _, a := range [][]api.Point{x.line, back(x.line)} {
			if !Valid(a) {
				t.Errorf("%v: not valid", x.name)
			}
			if got := Turned(a); !slices.Equal(got, back(a)) {
				t.Errorf("%v, turned: %v", x.name, got)
			}
			if spot, err := Locate(a, at(3, 3)); err != api.OK || spot == (api.Spot{}) {
				t.Errorf("Locate beside %v: %v, %v", x.name, spot, err)
			}
			if i, err := Nearest([][]api.Point{a}, at(3, 3)); i != 0 || err != api.OK {
				t.Errorf("Nearest of %v alone: %v, %v", x.name, i, err)
			}
		}
	}
}

// refused checks that a line is not valid, whatever is asked about it.
func refused(t *testing.T, name string, a []api.Point) {
	t.Helper()
	if Valid(a) {
		t.Errorf("%v: valid", name)
	}
	if got := Turned(a); len(got) > 0 {
		t.Errorf("%v, turned: %v", name, got)
	}
	for _, p := range []api.Point{at(0, 0), at(3, 3), at(-1, 0)} {
		if spot, err := Locate(a, p); spot != (api.Spot{}) || err != api.ErrArg {
			t.Errorf("Locate of %v beside %v: %v, %v", p, name, spot, err)
		}
		for _, lines := range [][][]api.Point{{a}, {corner, a}, {a, corner}, {corner, a, bay}} {
			if i, err := Nearest(lines, p); i != 0 || err != api.ErrArg {
				t.Errorf("Nearest to %v with %v: %v, %v", p, name, i, err)
			}
		}
	}
}

// I1, I2, I4, I5: lines that are not valid, each for one reason where this can be.
func TestInvalids(t *testing.T) {
	for _, x := range []struct {
		name string
		line []api.Point
	}{
		{"no point", nil},
		{"no point, but a list", []api.Point{}},
		{"one point", points(3, 3)},
		{"one point, off the grid", points(3, -3)},
		{"two equal points", points(3, 3, 3, 3)},
		{"equal points at the beginning", points(0, 0, 0, 0, 1, 0)},
		{"in the middle", points(0, 0, 1, 0, 1, 0, 2, 0)},
		{"at the end", points(0, 0, 1, 0, 1, 0)},
		{"equal points three times", points(0, 0, 1, 0, 1, 0, 1, 0, 5, 5)},
		{"41 points", straight(41)},
		{"41 points, there and back", append(straight(21), back(straight(20))...)},
		{"42 points", stair(42)},
		{"80 points", append(straight(40), stair(40)...)},
		{"100000 points", points(make([]int, 200000)...)},
		{"points at both sides of the grid, and off it", points(-1, 5, top+1, 5)},
	} {
		refused(t, x.name, x.line)
		refused(t, x.name+", the other way round", back(x.line))
	}
}

// I1: each point of a line the same as the one before it.
func TestEqualPoints(t *testing.T) {
	for _, a := range [][]api.Point{straight(2), corner, bay, stair(39)} {
		for i, p := range a {
			refused(t, "equal points", slices.Insert(slices.Clone(a), i, p))
		}
	}
	for _, a := range [][]api.Point{straight(2), corner, bay, stair(40)} {
		for i := range a[1:] {
			refused(t, "equal points in place of others", with(a, i+1, a[i]))
		}
	}
}

// I1, I2, I4, I5: a point that is not on the grid, at each place of the line.
func TestOffGrid(t *testing.T) {
	for _, a := range [][]api.Point{straight(2), corner, stair(40)} {
		for i, p := range a {
			for _, n := range beyond() {
				for _, q := range []api.Point{at(n, p.Y), at(p.X, n), at(n, n)} {
					if b := with(a, i, q); Valid(b) || len(Turned(b)) > 0 {
						t.Errorf("valid: %v", b)
					}
				}
			}
			refused(t, "a point to the left of the grid", with(a, i, at(-1, p.Y)))
			refused(t, "a point to the right", with(a, i, at(top+1, p.Y)))
			refused(t, "a point below", with(a, i, at(p.X, -1)))
			refused(t, "a point above", with(a, i, at(p.X, top+1)))
		}
	}
}

// I2, I5: a point that is not on the grid, beside valid lines.
func TestPointOffGrid(t *testing.T) {
	for _, x := range valids {
		for _, p := range off() {
			if spot, err := Locate(x.line, p); spot != (api.Spot{}) || err != api.ErrArg {
				t.Errorf("Locate of %v beside %v: %v, %v", p, x.name, spot, err)
			}
			if i, err := Nearest([][]api.Point{corner, x.line}, p); i != 0 || err != api.ErrArg {
				t.Errorf("Nearest to %v with %v: %v, %v", p, x.name, i, err)
			}
		}
	}
}

// beside returns the place with these fields.
func beside(seg int, part api.Fraction, side int, away api.Fraction) api.Spot {
	return api.Spot{Seg: seg, Part: part, Side: side, Away: away}
}

// places are points beside lines, and their places.
var places = []struct {
	name string
	line []api.Point
	p    api.Point
	want api.Spot
}{
	// Beside a segment: to the left, to the right, and on it.
	{"left of the first", points(0, 0, 10, 0, 10, 10), at(4, 3), beside(0, terms(2, 5), 1, terms(9, 1))},
	{"right of the last", points(0, 0, 10, 0, 10, 10), at(12, 5), beside(1, terms(1, 2), -1, terms(4, 1))},
	{"left of the last", corner, at(9, 8), beside(1, terms(3, 5), 1, terms(1, 1))},
	{"right of the first", corner, at(6, 2), beside(0, terms(1, 5), -1, terms(9, 1))},
	{"on the first", corner, at(7, 5), beside(0, terms(2, 5), 0, terms(0, 1))},
	{"on the last", corner, at(10, 9), beside(1, terms(4, 5), 0, terms(0, 1))},
	{"left, downwards", points(4, 9, 4, 1), at(5, 3), beside(0, terms(3, 4), 1, terms(1, 1))},
	{"right, downwards", points(4, 9, 4, 1), at(3, 3), beside(0, terms(3, 4), -1, terms(1, 1))},
	{"slanting", points(0, 0, 3, 4), at(0, 4), beside(0, terms(16, 25), 1, terms(144, 25))},
	{"slanting, the other way", points(3, 4, 0, 0), at(0, 4), beside(0, terms(9, 25), -1, terms(144, 25))},
	// At the ends of segments.
	{"at the beginning", corner, at(5, 5), beside(0, terms(0, 1), 0, terms(0, 1))},
	{"at the end", corner, at(10, 10), beside(1, terms(1, 1), 0, terms(0, 1))},
	{"where the first one ends", corner, at(10, 5), beside(0, terms(1, 1), 0, terms(0, 1))},
	{"where the second one ends", bay, at(4, 4), beside(1, terms(1, 1), 0, terms(0, 1))},
	{"outside of the corner", corner, at(12, 3), beside(0, terms(1, 1), -1, terms(8, 1))},
	{"below the corner", corner, at(10, 4), beside(0, terms(1, 1), -1, terms(1, 1))},
	{"just before the corner", corner, at(9, 4), beside(0, terms(4, 5), -1, terms(1, 1))},
	{"just behind the corner", corner, at(11, 6), beside(1, terms(1, 5), -1, terms(1, 1))},
	// On the straight line through a segment, but not on it.
	{"straight on from the first", corner, at(12, 5), beside(0, terms(1, 1), 0, terms(4, 1))},
	{"straight back from the last", corner, at(10, 2), beside(0, terms(1, 1), -1, terms(9, 1))},
	{"straight before the beginning", corner, at(2, 5), beside(0, terms(0, 1), 0, terms(9, 1))},
	{"straight behind the end", corner, at(10, 12), beside(1, terms(1, 1), 0, terms(4, 1))},
	{"on a gap of one straight line", points(0, 0, 2, 0, 2, 9, 7, 9, 7, 0, 9, 0), at(4, 0), beside(0, terms(1, 1), 0, terms(4, 1))},
	// Before the beginning and behind the end.
	{"before the beginning, left", corner, at(3, 9), beside(0, terms(0, 1), 1, terms(20, 1))},
	{"before the beginning, right", corner, at(3, 1), beside(0, terms(0, 1), -1, terms(20, 1))},
	{"behind the end, left", corner, at(9, 13), beside(1, terms(1, 1), 1, terms(10, 1))},
	{"behind the end, right", corner, at(13, 14), beside(1, terms(1, 1), -1, terms(25, 1))},
	// As near to several segments: the first one counts.
	{"as near to the first two", points(0, 0, 10, 0, 10, 10), at(5, 5), beside(0, terms(1, 2), 1, terms(25, 1))},
	{"as near to three", bay, at(2, 2), beside(0, terms(1, 2), 1, terms(4, 1))},
	{"as near to the last two", bay, at(3, 3), beside(1, terms(3, 4), 1, terms(1, 1))},
	{"as near to the first and the last", bay, at(0, 2), beside(0, terms(0, 1), 1, terms(4, 1))},
	{"as near to the first and the last, backwards", back(bay), at(0, 2), beside(0, terms(0, 1), -1, terms(4, 1))},
	{"there and back", points(0, 0, 6, 0, 0, 0), at(2, 1), beside(0, terms(1, 3), 1, terms(1, 1))},
	{"there, and back in part", points(0, 0, 6, 0, 2, 0), at(4, 1), beside(0, terms(2, 3), 1, terms(1, 1))},
	{"where segments cross", points(0, 0, 4, 4, 4, 0, 0, 4), at(2, 2), beside(0, terms(1, 2), 0, terms(0, 1))},
	{"where segments after the first cross", points(0, 9, 0, 0, 4, 4, 4, 0, 0, 4), at(2, 2), beside(1, terms(1, 2), 0, terms(0, 1))},
	{"at the corner of two that tell other sides", points(0, 0, 10, 0, 0, 5), at(12, 1), beside(0, terms(1, 1), 1, terms(5, 1))},
	{"backwards", points(0, 5, 10, 0, 0, 0), at(12, 1), beside(0, terms(1, 1), 1, terms(5, 1))},
	{"back to the beginning", points(5, 5, 6, 5, 5, 5), at(4, 5), beside(0, terms(0, 1), 0, terms(1, 1))},
	{"the nearest one is neither the first nor the last", points(0, 0, 9, 0, 9, 9, 20, 9, 20, 0), at(14, 8), beside(2, terms(5, 11), -1, terms(1, 1))},
	{"each one is nearer than the one before", points(0, 0, 9, 0, 9, 3, 0, 3), at(1, 2), beside(2, terms(8, 9), 1, terms(1, 1))},
	{"each one is farther than the one before", points(0, 3, 9, 3, 9, 0, 0, 0), at(1, 2), beside(0, terms(1, 9), -1, terms(1, 1))},
	// Lines of 40 points.
	{"the last of 39 segments", straight(40), at(115, 2), beside(38, terms(1, 3), 1, terms(4, 1))},
	{"above the end of 39 segments", straight(40), at(117, 5), beside(38, terms(1, 1), 1, terms(25, 1))},
	{"behind 39 segments", straight(40), at(200, 0), beside(38, terms(1, 1), 0, terms(6889, 1))},
	{"in the middle of 39 segments", straight(40), at(60, 7), beside(19, terms(1, 1), 1, terms(49, 1))},
	{"as near to the last two of 39 segments", stair(40), at(39, 37), beside(37, terms(1, 2), -1, terms(1, 1))},
	{"at the corner of the last two", stair(40), at(37, 39), beside(37, terms(1, 1), 1, terms(2, 1))},
	{"behind 39 segments with corners", stair(40), at(41, 39), beside(38, terms(1, 1), 1, terms(2, 1))},
	// Distances that are hardly the same, and the greatest ones.
	{"a half away", points(0, 0, 1, 1), at(1, 0), beside(0, terms(1, 2), -1, terms(1, 2))},
	{"a half, but the next one is nearer", points(0, 0, 1, 1, 5, 0, 1, 0), at(1, 0), beside(2, terms(1, 1), 0, terms(0, 1))},
	{"1/2 and 2/5", points(0, 0, 1, 1, 3, 2, 1, 1), at(2, 2), beside(1, terms(3, 5), 1, terms(1, 5))},
	{"across the grid", points(0, 0, top, top), at(top, 0), beside(0, terms(1, 2), -1, terms(1073676289, 2))},
	{"at the other side of the grid", points(0, 0, top, 0), at(top, top), beside(0, terms(1, 1), 1, terms(1073676289, 1))},
	{"at the opposite corner", points(0, 0, 1, 0), at(top, top), beside(0, terms(1, 1), 1, terms(2147287045, 1))},
	{"hardly beside", points(0, 0, top, top-1), at(1, 1), beside(0, terms(65533, 2147287045), 1, terms(1, 2147287045))},
}

// I2
func TestLocate(t *testing.T) {
	for _, x := range places {
		if got, err := Locate(x.line, x.p); got != x.want || err != api.OK {
			t.Errorf("%v: %v, %v, not %v", x.name, got, err, x.want)
		}
	}
}

// I2: all points of a line of 40 points, at which one segment ends and the next
// one begins.
func TestEnds(t *testing.T) {
	for i, p := range straight(40) {
		want := beside(max(i-1, 0), terms(1, 1), 0, terms(0, 1))
		if i == 0 {
			want.Part = terms(0, 1)
		}
		if got, err := Locate(straight(40), p); got != want || err != api.OK {
			t.Errorf("%v: %v, %v", p, got, err)
		}
	}
}

// spot returns a place after a part of a segment, with other fields that should
// not matter.
func spot(seg, num, den int) api.Spot {
	return api.Spot{Seg: seg, Part: terms(num, den), Side: seg - num, Away: terms(den, seg)}
}

// I3: the order of places, and those that are the same though Seg differs.
func TestBefore(t *testing.T) {
	const term = 4611686018427387904
	for _, x := range []struct {
		a, b api.Spot
		want int
	}{
		// In the same segment.
		{spot(0, 1, 2), spot(0, 2, 3), -1}, {spot(0, 1, 2), spot(0, 1, 2), 0}, {spot(0, 0, 1), spot(0, 1, 1), -1}, {spot(7, 0, 1), spot(7, 1, 9), -1}, {spot(7, 8, 9), spot(7, 1, 1), -1}, {spot(38, 0, 1), spot(38, 1, 1), -1}, {spot(38, 1, 1), spot(38, 1, 1), 0}, {spot(0, 0, 1), spot(0, 0, 1), 0},
		// In others.
		{spot(0, 2, 3), spot(1, 1, 3), -1}, {spot(0, 2, 3), spot(1, 0, 1), -1}, {spot(0, 1, 1), spot(1, 1, 9), -1}, {spot(0, 1, 1), spot(2, 0, 1), -1}, {spot(0, 0, 1), spot(38, 1, 1), -1}, {spot(36, 1, 1), spot(38, 0, 1), -1}, {spot(9, 1, 1), spot(11, 1, 1), -1}, {spot(9, 1, 1), spot(10, 1, 1), -1}, {spot(9, 0, 1), spot(10, 0, 1), -1},
		// At the end of one and the beginning of the next one.
		{spot(0, 1, 1), spot(1, 0, 1), 0}, {spot(20, 1, 1), spot(21, 0, 1), 0}, {spot(37, 1, 1), spot(38, 0, 1), 0}, {spot(0, 0, 1), spot(1, 1, 1), -1},
		// With terms that hardly differ, or are the greatest.
		{spot(0, 1, term), spot(0, 1, term-1), -1}, {spot(0, term-2, term-1), spot(0, term-1, term), -1}, {spot(0, 0, 1), spot(0, 1, term), -1}, {spot(5, term-1, term), spot(5, 1, 1), -1}, {spot(5, term-1, term), spot(6, 0, 1), -1}, {spot(5, 1, 1), spot(6, 1, term), -1}, {spot(38, term-1, term), spot(38, term-1, term), 0}, {spot(37, term-1, term), spot(38, 1, term), -1}, {spot(3, 1<<61-1, 1<<62-1), spot(3, 1, 2), -1},
	} {
		if got, other := Before(x.a, x.b), Before(x.b, x.a); got != x.want || other != -x.want {
			t.Errorf("%v and %v: %v, and %v", x.a, x.b, got, other)
		}
	}
}

// malformed are places that are not well-formed, each for one reason.
func malformed() []api.Spot {
	const term = 4611686018427387904
	list := []api.Spot{
		{}, spot(5, 0, 0), spot(5, 1, 0), spot(5, 0, -1), spot(5, 0, 2), spot(5, 2, 2), spot(5, 2, 4), spot(5, 3, 6), spot(5, 9, 9),
		spot(5, -1, 2), spot(5, 1, -2), spot(5, -1, -2), spot(5, -1, 1), spot(5, -1, -1), spot(5, 3, 2), spot(5, 2, 1), spot(5, term, 1), spot(5, -term, 1),
		spot(5, term+1, term), spot(5, 1, term+1), spot(5, term, term), spot(5, term, term+1), spot(5, term-2, term), spot(5, -1<<63, -1<<63), spot(5, 1, -1<<63), spot(5, 1<<63-1, 1<<63-1),
	}
	for _, seg := range []int{-1, -2, 39, 40, 41, 1 << 32, 1<<32 + 5, -1 << 32, -1 << 63, 1<<63 - 1} {
		list = append(list, spot(seg, 0, 1), spot(seg, 1, 2), spot(seg, 1, 1))
	}
	return list
}

// I3: a place that is not well-formed, on each side of any other one.
func TestMalformed(t *testing.T) {
	list := malformed()
	for _, a := range list {
		for _, b := range append(malformed(), spot(0, 0, 1), spot(0, 1, 1), spot(5, 1, 2), spot(5, 1, 1), spot(6, 0, 1), spot(37, 1, 1), spot(38, 0, 1), spot(38, 1, 1)) {
			if Before(a, b) != 0 || Before(b, a) != 0 {
				t.Errorf("%v and %v: %v, %v", a, b, Before(a, b), Before(b, a))
			}
		}
	}
}

// I4: the result is new memory, in which nothing of the line is.
func TestTurned(t *testing.T) {
	for _, x := range valids {
		a := slices.Clone(x.line)
		got, other := Turned(a), Turned(a)
		for i := range got {
			got[i] = at(-7, -7)
		}
		if !slices.Equal(a, x.line) || !slices.Equal(other, back(x.line)) {
			t.Errorf("%v: changed with the result: %v, %v", x.name, a, other)
		}
		for i := range a {
			a[i] = at(-9, -9)
		}
		if !slices.Equal(other, back(x.line)) {
			t.Errorf("%v: the result changed with the line: %v", x.name, other)
		}
	}
	a := stair(40)
	if got := Turned(a[:5]); !slices.Equal(got, back(stair(5))) || !slices.Equal(append(got, at(1, 1))[:5], back(stair(5))) || !slices.Equal(a, stair(40)) {
		t.Errorf("the beginning of a list: %v", got)
	}
}

// I5: the first one of the nearest lines.
func TestNearest(t *testing.T) {
	low, middle, high := points(0, 0, 9, 0), points(0, 4, 9, 4), points(9, 8, 5, 8, 0, 8)
	far := points(9000, 9000, 9000, 9001)
	for i, x := range []struct {
		lines [][]api.Point
		p     api.Point
		want  int
	}{
		{[][]api.Point{low}, at(3, 1), 0}, {[][]api.Point{far}, at(3, 1), 0}, {[][]api.Point{far, low}, at(3, 1), 1},
		{[][]api.Point{low, middle, high}, at(3, 1), 0}, {[][]api.Point{low, middle, high}, at(3, 3), 1}, {[][]api.Point{low, middle, high}, at(3, 9), 2}, {[][]api.Point{high, middle, low}, at(3, 9), 0},
		// As near to several.
		{[][]api.Point{low, middle, high}, at(3, 2), 0}, {[][]api.Point{middle, low, high}, at(3, 2), 0}, {[][]api.Point{high, low, middle}, at(3, 2), 1}, {[][]api.Point{low, middle, high}, at(7, 6), 1},
		{[][]api.Point{low, middle, high, middle}, at(20, 6), 1}, {[][]api.Point{low, middle, high, middle}, at(20, 7), 2}, {[][]api.Point{low, low, low}, at(20, 7), 0}, {[][]api.Point{high, low, low}, at(1, 1), 1},
		// On lines: the first one.
		{[][]api.Point{low, middle, points(3, 0, 3, 9)}, at(3, 4), 1}, {[][]api.Point{points(3, 0, 3, 9), low, middle}, at(3, 4), 0}, {[][]api.Point{low, points(3, 0, 3, 9), middle}, at(3, 4), 1},
		// Hardly nearer: 1/2 and 1/5, 1/2 and 2/4, and what differs by less.
		{[][]api.Point{points(0, 0, 1, 1), points(0, 1, 2, 0)}, at(1, 0), 1}, {[][]api.Point{points(0, 0, 1, 1), points(0, 0, 2, 2)}, at(1, 0), 0}, {[][]api.Point{points(0, 0, 2, 2), points(0, 0, 1, 1)}, at(1, 0), 0}, {[][]api.Point{points(0, 1, 1, 0), points(1, 2, 2, 1)}, at(1, 1), 0},
		{[][]api.Point{points(0, 0, top-1, top-2), points(0, 0, top, top-1)}, at(16000, 16000), 1}, {[][]api.Point{points(0, 0, top, top-1), points(0, 0, top-1, top)}, at(16000, 16000), 0}, {[][]api.Point{points(0, 0, top, top-1), points(0, 0, top, top)}, at(0, top), 1}, {[][]api.Point{points(0, 0, top, top), points(0, 0, top, top-1)}, at(0, top), 0}, {[][]api.Point{points(0, 0, top, top), points(0, 0, top-1, top)}, at(0, top), 1},
		{[][]api.Point{points(0, 0, 1, 0), points(0, 0, 1, 1), points(0, 0, 0, 1)}, at(top, top), 1},
	} {
		if got, err := Nearest(x.lines, x.p); got != x.want || err != api.OK {
			t.Errorf("%v: %v, %v", i, got, err)
		}
	}
}

// I5: up to 400 lines, with the nearest one anywhere among them.
func TestMany(t *testing.T) {
	for _, n := range []int{1, 2, 39, 40, 41, 64, 255, 256, 257, 399, 400} {
		for _, i := range []int{0, n / 2, n - 1} {
			lines := times(n, corner)
			lines[i] = points(8, 0, 9, 0)
			if got, err := Nearest(lines, at(7, 1)); got != i || err != api.OK {
				t.Errorf("%v of %v lines: %v, %v", i, n, got, err)
			}
			if got, err := Nearest(lines, at(5, 5)); got != b2i(i == 0 && n > 1) || err != api.OK {
				t.Errorf("another one than %v of %v lines: %v, %v", i, n, got, err)
			}
		}
	}
}

// b2i returns 1 for true.
func b2i(is bool) int {
	if is {
		return 1
	}
	return 0
}

// I5: errors in their order, and each for one reason.
func TestNearestErrors(t *testing.T) {
	wrong, here, away := points(3, 3), at(5, 5), at(-1, 0)
	for i, x := range []struct {
		lines [][]api.Point
		p     api.Point
		want  api.Errno
	}{
		{nil, here, api.ErrArg}, {[][]api.Point{}, here, api.ErrArg}, {nil, away, api.ErrArg},
		{times(400, corner), here, api.OK}, {times(401, corner), here, api.ErrLimit}, {times(402, corner), here, api.ErrLimit}, {times(100000, nil), here, api.ErrLimit},
		{times(401, wrong), here, api.ErrLimit}, {times(401, corner), away, api.ErrLimit}, {times(401, nil), away, api.ErrLimit}, {append(times(400, corner), wrong), here, api.ErrLimit},
		{times(400, corner), away, api.ErrArg}, {times(400, wrong), here, api.ErrArg}, {append(times(399, corner), wrong), here, api.ErrArg}, {append([][]api.Point{wrong}, times(399, corner)...), here, api.ErrArg}, {times(400, nil), away, api.ErrArg},
		{[][]api.Point{corner}, away, api.ErrArg}, {[][]api.Point{wrong}, here, api.ErrArg}, {[][]api.Point{nil}, here, api.ErrArg}, {[][]api.Point{wrong}, away, api.ErrArg},
		{[][]api.Point{corner, straight(41)}, here, api.ErrArg}, {[][]api.Point{corner, straight(40)}, here, api.OK}, {[][]api.Point{corner, points(1, 1, 1, 1)}, here, api.ErrArg}, {[][]api.Point{corner, bay, points(1, 1, -1, 1)}, here, api.ErrArg},
	} {
		if got, err := Nearest(x.lines, x.p); got != 0 || err != x.want {
			t.Errorf("%v: %v, %v", i, got, err)
		}
	}
	// A nearest line before the wrong one, and behind it, is not returned.
	for i := range 3 {
		lines := [][]api.Point{bay, corner, points(20, 20, 30, 30)}
		lines[i] = wrong
		if got, err := Nearest(lines, here); got != 0 || err != api.ErrArg {
			t.Errorf("a wrong line at %v: %v, %v", i, got, err)
		}
	}
}

// P9.1: the same lines, points and places with the chapter's words.
func TestKnown(t *testing.T) {
	for _, x := range valids {
		for _, p := range append(square(-1, 0, 1, 4, 5, 6, 9), x.line...) {
			compareLine(t, x.line, p)
			compareLine(t, back(x.line), p)
		}
	}
	for _, x := range places {
		compareLine(t, x.line, x.p)
	}
}
