package polygon

import (
	"math"
	"slices"
	"strings"
	"testing"

	"gazetteer/api"
)

// valids are valid rings, and twice their areas.
var valids = []struct {
	name  string
	ring  []api.Point
	twice int
}{
	{"a square", ring(0, 0, 4, 0, 4, 4, 0, 4), 32},
	{"a square with a notch", ring(0, 0, 4, 0, 4, 4, 2, 2, 0, 4), 24},
	{"a triangle", ring(0, 0, 4, 0, 0, 3), 12},
	{"the least triangle", ring(5, 5, 6, 5, 5, 6), 1},
	{"a triangle with no point inside", ring(1, 0, 2, 5, 0, 1), 6},
	{"the whole grid", ring(0, 0, top, 0, top, top, 0, top), 2147352578},
	{"half of the grid", ring(top, 0, top, top, 0, top), 1073676289},
	{"a long and narrow triangle", ring(0, 0, top, top-1, top-1, top-1), top - 1},
	{"a narrower one", ring(0, 0, top-1, top, top-2, top-1), 1},
	{"a narrower one to the other side", ring(0, 0, top-1, top-2, top, top-1), 1},
	{"two sides on one straight line, with a gap between", ring(0, 0, 2, 0, 2, 1, 4, 1, 4, 0, 6, 0, 6, 3, 0, 3), 32},
	{"two such sides, as near as can be", ring(0, 0, 2, 0, 2, 1, 3, 1, 3, 0, 6, 0, 6, 3, 0, 3), 34},
	{"a corner one beside a side that it is no end of", ring(0, 0, 6, 0, 6, 6, 3, 1, 0, 6), 42},
	{"a bay", ring(0, 0, 6, 0, 6, 6, 4, 6, 4, 2, 2, 2, 2, 6, 0, 6), 56},
	{"a stair", ring(0, 0, 3, 0, 3, 1, 2, 1, 2, 2, 1, 2, 1, 3, 0, 3), 12},
	{"a turn to the right first", ring(0, 4, 2, 5, 4, 4, 2, 9), 16},
	{"40 points", comb(10, 9), 2 * (38*2 + 10*2*7)},
	{"40 points, one of them in a dent below", slices.Insert(comb(10, 9), 1, at(19, 1))[:40], 2*(38*2+10*2*7) - 2*9 - 38},
	{"39 points", comb(10, 9)[:39], 2*(38*2+10*2*7) - 2*9},
}

// H1, H2, H5: valid rings, from each of their points on.
func TestValids(t *testing.T) {
	for _, x := range valids {
		for i := range x.ring {
			a := turned(x.ring, i)
			if !Valid(a) || Twice(a) != x.twice {
				t.Errorf("%v from %v on: %v, %v", x.name, a[0], Valid(a), Twice(a))
			}
			if Valid(back(a)) || Twice(back(a)) != 0 {
				t.Errorf("%v, back from %v: %v", x.name, a[0], Twice(back(a)))
			}
		}
	}
}

// invalids are rings that are not valid, each for one reason where this can be.
var invalids = []struct {
	name string
	ring []api.Point
}{
	{"no point", nil},
	{"no point, but a list", []api.Point{}},
	{"one point", ring(3, 3)},
	{"two points", ring(0, 0, 4, 0)},
	{"two equal points", ring(3, 3, 3, 3)},
	{"41 points", slices.Insert(comb(10, 9), 1, at(19, 1))},
	{"44 points", comb(11, 9)},
	{"the other way round", ring(0, 0, 0, 4, 4, 4, 4, 0)},
	{"a triangle the other way round", ring(0, 0, 0, 3, 4, 0)},
	{"all points on one straight line", ring(0, 0, 4, 0, 2, 0)},
	{"three points on one straight line, at the beginning", ring(0, 0, 2, 0, 4, 0, 4, 4)},
	{"in the middle", ring(0, 0, 4, 0, 4, 2, 4, 4, 0, 4)},
	{"at the end", ring(4, 0, 4, 4, 0, 4, 0, 2, 0, 0)},
	{"around the end", ring(0, 2, 0, 0, 4, 0, 4, 4, 0, 4)},
	{"before the beginning", ring(0, 0, 4, 0, 4, 4, 0, 4, 0, 2)},
	{"slanting", ring(0, 0, 3, 1, 6, 2, 0, 9)},
	{"there and back", ring(0, 0, 4, 0, 4, 4, 4, 0)},
	{"there, and back in part", ring(0, 0, 4, 0, 4, 4, 4, 2, 0, 2)},
	{"there, and back and farther", ring(4, 2, 4, 4, 4, 0, 8, 0, 8, 8, 0, 8, 0, 2)},
	{"equal points one after the other", ring(0, 0, 4, 0, 4, 0, 4, 4)},
	{"equal points at both ends of the list", ring(0, 0, 4, 0, 4, 4, 0, 0)},
	{"equal points elsewhere: two triangles meet at a corner", ring(0, 0, 2, 2, 4, 0, 4, 4, 2, 2, 0, 4)},
	{"equal points where the ring touches itself", ring(0, 0, 6, 0, 3, 3, 6, 6, 0, 6, 3, 3)},
	{"a triangle inside which hangs at a corner", ring(0, 0, 9, 0, 0, 9, 0, 0, 1, 3, 3, 1)},
	{"a triangle gone round twice", ring(0, 0, 4, 0, 0, 3, 0, 0, 4, 0, 0, 3)},
	{"a square gone round twice", ring(0, 0, 4, 0, 4, 4, 0, 4, 0, 0, 4, 0, 4, 4, 0, 4)},
	{"all points equal", ring(3, 3, 3, 3, 3, 3)},
	{"sides that cross, with no area", ring(0, 0, 4, 4, 4, 0, 0, 4)},
	{"sides that cross, with the greater part on the left", ring(0, 0, 8, 0, 2, 8, 4, 8)},
	{"a star with five tips, gone round twice", ring(8, 0, 5, 10, 2, 0, 10, 6, 0, 6)},
	{"two sides that cross the first one", ring(0, 2, 6, 2, 6, 6, 3, 0, 0, 6)},
	{"a corner on a side", ring(0, 0, 6, 0, 6, 6, 3, 0, 0, 6)},
	{"a corner on a side, from outside", ring(0, 0, 6, 0, 6, 6, 8, 6, 6, 3, 9, 0, 9, 9, 0, 9)},
	{"sides one on the other", ring(0, 0, 9, 0, 9, 9, 6, 0, 3, 0, 0, 9)},
	{"sides one on the other in part", ring(0, 0, 6, 0, 6, 3, 9, 3, 9, 0, 4, 0, 0, 9)},
	{"sides one after the other, which are no neighbours", ring(0, 0, 2, 0, 2, 1, 3, 1, 2, 0, 6, 0, 6, 3, 0, 3)},
	{"the first and the last but one side touch", ring(3, 0, 9, 0, 9, 9, 5, 0, 0, 9)},
	{"a corner off the grid, to the left", ring(-1, 0, 4, 0, 4, 4)},
}

// H1, H2, H3, H5: rings that are not valid, from each of their points on.
func TestInvalids(t *testing.T) {
	q := ring(0, 0, 9, 0, 9, 9, 0, 9)
	for _, x := range invalids {
		for i := range max(1, len(x.ring)) {
			a := turned(x.ring, i)
			if Valid(a) || Twice(a) != 0 {
				t.Errorf("%v, %v on: valid, %v", x.name, i, Twice(a))
			}
			if low, high, err := Box(a); low != at(0, 0) || high != at(0, 0) || err != api.ErrArg {
				t.Errorf("Box of %v: %v, %v, %v", x.name, low, high, err)
			}
			for _, p := range square(-1, 0, 1, 2, 3, 4, 5, 6) {
				if got := Where(a, p); got != -1 {
					t.Errorf("Where of %v in %v: %v", p, x.name, got)
				}
			}
			if Within(a, q) || Within(q, a) || Within(a, a) {
				t.Errorf("%v: within", x.name)
			}
			if far := ring(20, 20, 21, 20, 21, 21); Apart(a, far) || Apart(far, a) || Apart(a, q) || Apart(q, a) || Apart(a, a) {
				t.Errorf("%v: apart", x.name)
			}
		}
	}
}

// H1: what is not valid with three points on one straight line is valid, and has
// the same area, without the one in the middle.
func TestStraight(t *testing.T) {
	for _, x := range valids {
		if _, high, _ := Box(x.ring); len(x.ring) > 39 || max(high.X, high.Y) > top/2 {
			continue
		}
		var b []api.Point // twice as large, so that all middles are on the grid
		for _, p := range x.ring {
			b = append(b, at(2*p.X, 2*p.Y))
		}
		if !Valid(b) || Twice(b) != 4*x.twice {
			t.Fatalf("%v, twice as large: %v", x.name, Twice(b))
		}
		for i, p := range b {
			q := b[(i+1)%len(b)]
			c := slices.Insert(slices.Clone(b), i+1, at((p.X+q.X)/2, (p.Y+q.Y)/2))
			for j := range c {
				if Valid(turned(c, j)) {
					t.Errorf("%v: valid with %v from %v on", x.name, c[i+1], c[j])
				}
			}
		}
	}
}

// beyond are numbers that are not on the grid, but of which some bits would be.
func beyond() []int {
	return []int{-1, top + 1, -top, 2 * top, 65536, 1 << 31, 1 << 32, 1<<32 + 3, -1 << 32, math.MaxInt, math.MinInt, math.MinInt + 1}
}

// H1: each corner, moved beyond each limit; the ring would be valid otherwise.
func TestCornersOffGrid(t *testing.T) {
	a := ring(0, 0, top, 0, top, top, 0, top)
	for i, p := range a {
		x, y := -1, -1
		if p.X == top {
			x = top + 1
		}
		if p.Y == top {
			y = top + 1
		}
		for _, q := range []api.Point{at(x, p.Y), at(p.X, y), at(x, y)} {
			if b := with(a, i, q); Valid(b) || Twice(b) != 0 || Where(b, at(5, 5)) != -1 || Within(ring(1, 1, 2, 1, 1, 2), b) {
				t.Errorf("%v", b)
			}
		}
	}
	for _, n := range beyond() {
		for i, p := range a {
			for _, q := range []api.Point{at(n, p.Y), at(p.X, n), at(n, n), at(n, 7), at(7, n)} {
				b := with(a, i, q)
				if _, _, err := Box(b); err != api.ErrArg || Valid(b) || Twice(b) != 0 || Within(b, b) || Apart(b, a) {
					t.Errorf("%v", b)
				}
			}
		}
	}
}

// H5
func TestBox(t *testing.T) {
	for _, x := range []struct {
		ring      []api.Point
		low, high api.Point
	}{
		{ring(0, 0, 4, 0, 4, 4, 2, 2, 0, 4), at(0, 0), at(4, 4)},
		{ring(3, 7, 9, 2, 5, 9), at(3, 2), at(9, 9)},
		{ring(5, 1, 9, 4, 6, 9, 2, 6), at(2, 1), at(9, 9)},
		{ring(0, 0, top, top-1, top-1, top-1), at(0, 0), at(top, top-1)},
		{ring(0, top, 0, 0, top, 0), at(0, 0), at(top, top)},
		{ring(20, 30, 22, 30, 21, 35), at(20, 30), at(22, 35)},
		{comb(10, 9), at(0, 0), at(38, 9)},
	} {
		for i := range x.ring {
			if low, high, err := Box(turned(x.ring, i)); low != x.low || high != x.high || err != api.OK {
				t.Errorf("%v from %v on: %v, %v, %v", x.ring, i, low, high, err)
			}
		}
	}
}

// pictures are rings, and what is inside (#), on the boundary (+) and outside (.);
// the last line has the points at the bottom.
var pictures = []struct {
	ring  []api.Point
	lines string
}{
	{ring(1, 1, 5, 1, 5, 5, 1, 5), `
		.......
		.+++++.
		.+###+.
		.+###+.
		.+###+.
		.+++++.
		.......`},
	{ring(0, 0, 6, 0, 6, 6, 4, 6, 4, 2, 2, 2, 2, 6, 0, 6), `
		........
		+++.+++.
		+#+.+#+.
		+#+.+#+.
		+#+.+#+.
		+#+++#+.
		+#####+.
		+++++++.`},
	{ring(0, 0, 10, 0, 10, 10, 2, 10, 2, 4, 6, 4, 6, 6, 4, 6, 4, 8, 8, 8, 8, 2, 0, 2), `
		............
		..+++++++++.
		..+#######+.
		..+#+++++#+.
		..+#+...+#+.
		..+#+++.+#+.
		..+###+.+#+.
		..+++++.+#+.
		........+#+.
		+++++++++#+.
		+#########+.
		+++++++++++.`},
	{ring(0, 0, 4, 2, 8, 0, 6, 4, 8, 8, 4, 6, 0, 8, 2, 4), `
		+.......+.
		.#+...+#..
		.+##+##+..
		..#####...
		..+###+...
		..#####...
		.+##+##+..
		.#+...+#..
		+.......+.`},
	{ring(4, 0, 8, 4, 4, 8, 0, 4), `
		..........
		....+.....
		...+#+....
		..+###+...
		.+#####+..
		+#######+.
		.+#####+..
		..+###+...
		...+#+....
		....+.....`},
	{ring(0, 6, 3, 0, 4, 3, 5, 0, 8, 6, 5, 2, 4, 5, 3, 2), `
		.........
		+.......+
		....+....
		.+..#..+.
		..#.+.#..
		..++.++..
		...#.#...
		...+.+...`},
	{ring(0, 0, 6, 0, 6, 6, 3, 1, 0, 6), `
		........
		+.....+.
		+.....+.
		+#...#+.
		+#...#+.
		+##.##+.
		+##+##+.
		+++++++.`},
}

// H3: all points of pictures, from each point of the ring on.
func TestPictures(t *testing.T) {
	for n, x := range pictures {
		lines := strings.Fields(x.lines)
		for i := range x.ring {
			a := turned(x.ring, i)
			for j, line := range lines {
				for k := range len(line) {
					p := at(k, len(lines)-1-j)
					want := strings.IndexByte(".+#", line[k]) - 1
					if got := Where(a, p); got != want {
						t.Errorf("picture %v from %v on: %v at %v", n, i, got, p)
					}
				}
			}
		}
	}
}

// H3: points on the straight lines of sides, hardly inside or outside, and off
// the grid.
func TestWhere(t *testing.T) {
	bay := ring(0, 0, 6, 0, 6, 6, 4, 6, 4, 2, 2, 2, 2, 6, 0, 6)
	thin := ring(0, 0, top, top-1, top-1, top-1)
	for _, x := range []struct {
		ring []api.Point
		p    api.Point
		want int
	}{
		// On the straight line of a side: between two sides, behind them, inside.
		{bay, at(3, 6), -1}, {bay, at(7, 6), -1}, {bay, at(1, 2), 1}, {bay, at(5, 2), 1}, {bay, at(2, 1), 1}, {bay, at(4, 1), 1}, {bay, at(4, 7), -1},
		{ring(3, 3, 6, 3, 5, 6), at(2, 3), -1}, {ring(3, 3, 6, 3, 5, 6), at(7, 3), -1}, {ring(3, 3, 6, 3, 5, 6), at(4, 9), -1}, {ring(3, 3, 6, 3, 5, 6), at(7, 0), -1},
		// At the corners, and beside a corner at the height of which another one is.
		{ring(0, 3, 3, 0, 6, 3, 3, 6), at(0, 3), 0}, {ring(0, 3, 3, 0, 6, 3, 3, 6), at(6, 3), 0}, {ring(0, 3, 3, 0, 6, 3, 3, 6), at(3, 3), 1}, {ring(0, 3, 3, 0, 6, 3, 3, 6), at(7, 3), -1},
		// The straight way from one point of the ring to another one leaves it.
		{bay, at(3, 4), -1}, {bay, at(3, 5), -1}, {bay, at(3, 2), 0}, {bay, at(3, 1), 1},
		// Hardly inside, and hardly not.
		{thin, at(0, 0), 0}, {thin, at(1, 1), 0}, {thin, at(top-1, top-1), 0}, {thin, at(top-2, top-2), 0}, {thin, at(top, top), -1}, {thin, at(1, 0), -1}, {thin, at(2, 1), -1}, {thin, at(1, 2), -1},
		{ring(0, 0, top, top-2, top-2, top), at(1, 1), 1}, {ring(0, 0, top, top-2, top-2, top), at(top-1, top-1), 0}, {ring(0, 0, top, top-2, top-2, top), at(top-2, top-2), 1}, {ring(0, 0, top, top-2, top-2, top), at(top, top-1), -1},
		{ring(0, 0, top, 0, top, top, 0, top), at(1, top-1), 1}, {ring(0, 0, top, 0, top, top, 0, top), at(top, top), 0}, {ring(0, 0, top, 0, top, top, 0, top), at(top, 1), 0},
		{ring(0, 0, top, 0, 0, top), at(16384, 16383), 0}, {ring(0, 0, top, 0, 0, top), at(16383, 16383), 1}, {ring(0, 0, top, 0, 0, top), at(16384, 16384), -1},
		// Off the grid.
		{ring(0, 0, top, 0, top, top, 0, top), at(-1, 5), -1}, {ring(0, 0, top, 0, top, top, 0, top), at(5, top+1), -1}, {bay, at(-1, 0), -1}, {bay, at(0, -1), -1},
		{bay, at(1<<32+1, 1), -1}, {bay, at(1, 1<<32+1), -1}, {bay, at(math.MinInt, 1), -1}, {bay, at(1, math.MaxInt), -1}, {bay, at(math.MinInt+1, math.MinInt+1), -1},
	} {
		for i := range x.ring {
			if got := Where(turned(x.ring, i), x.p); got != x.want {
				t.Errorf("Where of %v for %v from %v on: %v", x.p, x.ring, i, got)
			}
		}
	}
}

// pairs are two valid rings, and whether the first one is within the second one,
// the second one within the first one, and both apart.
var pairs = []struct {
	name              string
	a, b              []api.Point
	in, around, apart bool
}{
	{"the same", ring(0, 0, 4, 0, 0, 4), ring(0, 0, 4, 0, 0, 4), true, true, false},
	{"the same from another point on", ring(0, 0, 6, 0, 6, 6, 3, 1, 0, 6), ring(6, 6, 3, 1, 0, 6, 0, 0, 6, 0), true, true, false},
	{"inside", ring(1, 1, 2, 1, 1, 2), ring(0, 0, 6, 0, 6, 6, 0, 6), true, false, false},
	{"within, with a common corner", ring(0, 0, 2, 1, 1, 2), ring(0, 0, 6, 0, 6, 6, 0, 6), true, false, false},
	{"within, with a corner on a side", ring(3, 0, 5, 2, 1, 2), ring(0, 0, 6, 0, 6, 6, 0, 6), true, false, false},
	{"within, with a common side", ring(0, 0, 6, 0, 6, 2, 0, 2), ring(0, 0, 6, 0, 6, 6, 0, 6), true, false, false},
	{"within, with a part of a side", ring(2, 0, 4, 0, 3, 2), ring(0, 0, 6, 0, 6, 6, 0, 6), true, false, false},
	{"within, with a part of a side and a corner", ring(0, 0, 4, 0, 3, 2), ring(0, 0, 6, 0, 6, 6, 0, 6), true, false, false},
	{"within, with all but one of the corners", ring(0, 0, 6, 0, 6, 6), ring(0, 0, 6, 0, 6, 6, 0, 6), true, false, false},
	{"within, with all corners on the boundary", ring(0, 3, 3, 0, 6, 3, 3, 6), ring(0, 0, 6, 0, 6, 6, 0, 6), true, false, false},
	{"all of the same corners, and a notch", ring(0, 0, 6, 0, 6, 6, 3, 3, 0, 6), ring(0, 0, 6, 0, 6, 6, 0, 6), true, false, false},
	{"the same corners in another order", ring(0, 0, 4, 0, 2, 1, 2, 4), ring(0, 0, 2, 1, 4, 0, 2, 4), false, false, false},
	{"far away", ring(0, 0, 4, 0, 0, 4), ring(9, 9, 12, 9, 9, 12), false, false, true},
	{"beside", ring(0, 0, 4, 0, 4, 4, 0, 4), ring(5, 0, 9, 0, 9, 4, 5, 4), false, false, true},
	{"boxes overlap", ring(0, 0, 4, 0, 0, 4), ring(4, 1, 4, 4, 1, 4), false, false, true},
	{"touching at a corner of both", ring(0, 0, 4, 0, 4, 4, 0, 4), ring(4, 4, 6, 4, 6, 6), false, false, true},
	{"touching at a corner of one", ring(0, 0, 4, 0, 4, 4, 0, 4), ring(4, 2, 6, 0, 6, 4), false, false, true},
	{"touching at two corners", ring(0, 0, 4, 0, 4, 4, 0, 4), ring(4, 0, 6, 2, 4, 4, 5, 2), false, false, true},
	{"touching along a side", ring(0, 0, 4, 0, 4, 4, 0, 4), ring(4, 0, 8, 0, 8, 4, 4, 4), false, false, true},
	{"touching along a part of a side", ring(0, 0, 4, 0, 4, 4, 0, 4), ring(4, 2, 8, 2, 8, 6, 4, 6), false, false, true},
	{"touching along a side within another one", ring(0, 0, 4, 0, 4, 4, 0, 4), ring(4, 1, 8, 1, 8, 3, 4, 3), false, false, true},
	{"touching along a part of a side and a corner", ring(0, 0, 4, 0, 4, 4, 0, 4), ring(4, 0, 8, 0, 8, 3, 4, 3), false, false, true},
	{"touching along two sides", ring(0, 0, 4, 0, 4, 4, 0, 4), ring(4, 0, 6, 6, 0, 4, 4, 4), false, false, true},
	{"two halves", ring(0, 0, 4, 0, 4, 4), ring(0, 0, 4, 4, 0, 4), false, false, true},
	{"in a bay, all around", ring(2, 2, 4, 2, 4, 6, 2, 6), ring(0, 0, 6, 0, 6, 6, 4, 6, 4, 2, 2, 2, 2, 6, 0, 6), false, false, true},
	{"in a bay, along its sides", ring(2, 3, 4, 3, 4, 5, 2, 5), ring(0, 0, 6, 0, 6, 6, 4, 6, 4, 2, 2, 2, 2, 6, 0, 6), false, false, true},
	{"in a wide bay, touching nothing", ring(3, 3, 5, 3, 4, 5), ring(0, 0, 8, 0, 8, 6, 6, 6, 6, 2, 2, 2, 2, 6, 0, 6), false, false, true},
	{"over a bay: a side along both ends of it", ring(0, 0, 6, 0, 6, 6, 0, 6), ring(0, 0, 6, 0, 6, 6, 4, 6, 4, 2, 2, 2, 2, 6, 0, 6), false, true, false},
	{"over a bay, from corner to corner", ring(0, 0, 6, 0, 4, 6, 2, 6), ring(0, 0, 6, 0, 6, 6, 4, 6, 4, 2, 2, 2, 2, 6, 0, 6), false, false, false},
	{"over a bay, with all corners on the boundary", ring(0, 4, 3, 0, 6, 4), ring(0, 0, 6, 0, 6, 6, 4, 6, 4, 2, 2, 2, 2, 6, 0, 6), false, false, false},
	{"over a bay, with all corners inside", ring(1, 5, 3, 1, 5, 5), ring(0, 0, 6, 0, 6, 6, 4, 6, 4, 2, 2, 2, 2, 6, 0, 6), false, false, false},
	{"over a sharp notch, no side of which is crossed", ring(0, 4, 0, 0, 4, 4), ring(0, 0, 4, 0, 4, 4, 2, 2, 0, 4), false, false, false},
	{"in a sharp notch", ring(2, 2, 4, 4, 0, 4), ring(0, 0, 4, 0, 4, 4, 2, 2, 0, 4), false, false, true},
	{"along the bottom of a bay", ring(0, 0, 6, 0, 6, 2, 0, 2), ring(0, 0, 6, 0, 6, 6, 4, 6, 4, 2, 2, 2, 2, 6, 0, 6), true, false, false},
	{"along a bay, through two of its corners", ring(0, 0, 4, 2, 2, 2), ring(0, 0, 6, 0, 6, 6, 4, 6, 4, 2, 2, 2, 2, 6, 0, 6), true, false, false},
	{"beside a bay, along its wall and farther", ring(4, 0, 6, 0, 6, 6, 4, 6), ring(0, 0, 6, 0, 6, 6, 4, 6, 4, 2, 2, 2, 2, 6, 0, 6), true, false, false},
	{"crossing", ring(0, 0, 4, 0, 4, 4, 0, 4), ring(2, 2, 6, 2, 6, 6, 2, 6), false, false, false},
	{"crossing, no corner of one in the other one", ring(2, 0, 4, 0, 4, 6, 2, 6), ring(0, 2, 6, 2, 6, 4, 0, 4), false, false, false},
	{"crossing one side only", ring(1, 1, 9, 2, 1, 3), ring(0, 0, 4, 0, 4, 4, 0, 4), false, false, false},
	{"through two corners, and no crossing", ring(0, 0, 6, 0, 0, 6), ring(2, 2, 4, 2, 4, 4, 2, 4), false, false, false},
	{"a common side, and inside each other in part", ring(0, 0, 4, 0, 4, 4), ring(0, 0, 4, 0, 0, 4), false, false, false},
	{"a common side, and corners on sides", ring(0, 0, 4, 0, 4, 2, 0, 2), ring(0, 0, 4, 0, 2, 2), false, true, false},
	{"farther to the side, with part of a common side", ring(0, 0, 4, 0, 4, 4, 0, 4), ring(2, 0, 6, 0, 6, 4, 2, 4), false, false, false},
	{"farther to both sides, with two common corners", ring(0, 0, 4, 0, 4, 4, 0, 4), ring(0, 0, 6, 2, 4, 4), false, false, false},
	{"beginning with a corner inside", ring(2, 2, 9, 2, 9, 3), ring(0, 0, 4, 0, 4, 4, 0, 4), false, false, false},
	{"one corner inside, the others on the boundary", ring(0, 0, 2, 1, 0, 4), ring(0, 0, 4, 0, 4, 4, 0, 4), true, false, false},
	{"one side outside, all corners at corners", ring(0, 0, 6, 0, 6, 6, 0, 6, 3, 3), ring(0, 0, 6, 0, 3, 3, 6, 6, 0, 6), false, false, false},
	{"hardly within", ring(0, 0, top, top-2, top-2, top), ring(0, 0, top, top-3, top-3, top), false, false, false},
	{"hardly within, with a common corner", ring(0, 0, top-1, top-2, top-2, top-1), ring(0, 0, top, top-2, top-2, top), true, false, false},
	{"hardly apart", ring(0, 0, top, 0, top, top-1), ring(0, 0, top, top-1, top-1, top-1), false, false, true},
	{"hardly crossing", ring(0, 0, top, 0, top, top-1), ring(0, 0, top, top-2, top-1, top), false, false, false},
	{"the whole grid", ring(0, 0, top, 0, top, top, 0, top), ring(top-1, top, top-1, top-1, top, top), false, true, false},
	{"two halves of the grid", ring(0, 0, top, 0, top, top), ring(0, 0, top, top, 0, top), false, false, true},
	{"a half of the grid and hardly more", ring(0, 0, top, 0, top, top), ring(1, 0, top, top, 0, top), false, false, false},
	{"a comb", ring(0, 0, 38, 0, 38, 2, 0, 2), comb(10, 9), true, false, false},
	{"a gap of a comb", ring(2, 2, 4, 2, 4, 9, 2, 9), comb(10, 9), false, false, true},
	{"the tips of a comb", ring(0, 9, 38, 9, 38, 12, 0, 12), comb(10, 9), false, false, true},
	{"all around a comb", ring(0, 0, 38, 0, 38, 9, 0, 9), comb(10, 9), false, true, false},
	{"across the tips of a comb", ring(0, 8, 38, 8, 38, 12, 0, 12), comb(10, 9), false, false, false},
}

// H4: from each point of both rings on.
func TestPairs(t *testing.T) {
	for _, x := range pairs {
		for i := range max(len(x.a), len(x.b)) {
			a, b := turned(x.a, i%len(x.a)), turned(x.b, i*i%len(x.b))
			if Within(a, b) != x.in || Within(b, a) != x.around {
				t.Errorf("%v, %v: %v, %v", x.name, i, Within(a, b), Within(b, a))
			}
			if Apart(a, b) != x.apart || Apart(b, a) != x.apart {
				t.Errorf("%v, %v: not %v", x.name, i, x.apart)
			}
		}
	}
}

// P8.1: the same rings with the chapter's words.
func TestKnown(t *testing.T) {
	for _, x := range valids {
		compareOne(t, x.ring)
		compareOne(t, back(x.ring))
	}
	for _, x := range invalids {
		compareOne(t, x.ring)
	}
	for _, x := range pictures {
		compareOne(t, x.ring)
	}
	for _, x := range pairs {
		in, around, apart := compareTwo(t, x.a, x.b)
		if in != x.in || around != x.around || apart != x.apart {
			t.Errorf("%v", x.name)
		}
	}
}
