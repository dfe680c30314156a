package line

import (
	"math"
	"math/rand"
	"slices"

	"gazetteer/api"
)

// top and most are written out, so that a changed limit would be noticed.
const (
	top  = 32767
	most = 40
)

// at returns the point with these coordinates.
func at(x, y int) api.Point { return api.Point{X: x, Y: y} }

// terms returns the fraction with these terms.
func terms(num, den int) api.Fraction { return api.Fraction{Num: num, Den: den} }

// points returns points from their coordinates.
func points(l ...int) []api.Point {
	var list []api.Point
	for i := 0; i+1 < len(l); i += 2 {
		list = append(list, at(l[i], l[i+1]))
	}
	return list
}

// square returns the points whose coordinates are among these.
func square(coordinates ...int) []api.Point {
	var list []api.Point
	for _, x := range coordinates {
		for _, y := range coordinates {
			list = append(list, at(x, y))
		}
	}
	return list
}

// back returns the points in the opposite order.
func back(a []api.Point) []api.Point {
	b := slices.Clone(a)
	slices.Reverse(b)
	return b
}

// with returns the points with another one at a place of the list.
func with(a []api.Point, i int, p api.Point) []api.Point {
	b := slices.Clone(a)
	b[i] = p
	return b
}

// straight returns so many points, from (0, 0) on, each 3 to the right of the one
// before it.
func straight(n int) []api.Point {
	var list []api.Point
	for i := range n {
		list = append(list, at(3*i, 0))
	}
	return list
}

// stair returns so many points, from (0, 0) on, each 2 to the right of the one
// before it, or above it.
func stair(n int) []api.Point {
	var list []api.Point
	for i := range n {
		list = append(list, at(2*((i+1)/2), 2*(i/2)))
	}
	return list
}

// times returns so many copies of a line.
func times(n int, a []api.Point) [][]api.Point {
	var list [][]api.Point
	for range n {
		list = append(list, slices.Clone(a))
	}
	return list
}

// beyond are numbers that are not on the grid, but of which some bits would be.
func beyond() []int {
	return []int{-1, top + 1, -top, 2 * top, 65536, 1 << 31, 1 << 32, 1<<32 + 3, -1 << 32, math.MaxInt, math.MinInt, math.MinInt + 1}
}

// off are points that are not on the grid, in one coordinate or in both.
func off() []api.Point {
	var list []api.Point
	for _, n := range beyond() {
		list = append(list, at(n, 3), at(3, n), at(n, n), at(n, -n), at(n, top), at(0, n))
	}
	return list
}

// sizes are greatest coordinates of small and large lines.
var sizes = []int{1, 2, 4, 9, 60, 2000, top}

// anywhere returns a point whose coordinates are at most a size.
func anywhere(r *rand.Rand, size int) api.Point {
	return at(r.Intn(size+1), r.Intn(size+1))
}

// inGrid returns the point of the grid that is nearest to these coordinates.
func inGrid(x, y int) api.Point {
	return at(min(max(x, 0), top), min(max(y, 0), top))
}

// grown returns a valid line of so many points, each of which a function makes
// of the one before it.
func grown(n int, first api.Point, next func(api.Point) api.Point) []api.Point {
	list := []api.Point{first}
	for len(list) < n {
		if p := next(list[len(list)-1]); p != list[len(list)-1] {
			list = append(list, p)
		}
	}
	return list
}

// wild returns a line whose points are anywhere.
func wild(r *rand.Rand, size, n int) []api.Point {
	return grown(n, anywhere(r, size), func(api.Point) api.Point { return anywhere(r, size) })
}

// short returns a line whose points are near to each other.
func short(r *rand.Rand, size, n int) []api.Point {
	return grown(n, anywhere(r, size), func(p api.Point) api.Point {
		return inGrid(p.X+r.Intn(5)-2, p.Y+r.Intn(5)-2)
	})
}

// angular returns a line of segments to the right, to the left, up and down.
func angular(r *rand.Rand, size, n int) []api.Point {
	return grown(n, anywhere(r, size), func(p api.Point) api.Point {
		if r.Intn(2) == 0 {
			return at(r.Intn(size+1), p.Y)
		}
		return at(p.X, r.Intn(size+1))
	})
}

// flat returns a line all points of which are on one straight line, and which
// goes there and back.
func flat(r *rand.Rand, size, n int) []api.Point {
	by := at(1+r.Intn(3), r.Intn(4))
	steps := max(1, size/max(by.X, by.Y))
	x := at(top-steps*by.X, top-steps*by.Y)
	from := at(r.Intn(max(0, x.X)+1), r.Intn(max(0, x.Y)+1))
	return grown(n, from, func(api.Point) api.Point {
		i := r.Intn(steps + 1)
		return inGrid(from.X+i*by.X, from.Y+i*by.Y)
	})
}

// random returns a valid line of one of these kinds, with few points or many, at
// the lower or the upper limit of the grid.
func random(r *rand.Rand, size int) []api.Point {
	n := 2 + r.Intn(5)
	if r.Intn(5) == 0 {
		n = 2 + r.Intn(most-1)
	}
	kinds := []func(*rand.Rand, int, int) []api.Point{wild, short, angular, flat}
	a := kinds[r.Intn(len(kinds))](r, size, n)
	if r.Intn(4) == 0 {
		for i, p := range a {
			a[i] = at(top-p.X, top-p.Y)
		}
	}
	return a
}

// divisor returns the greatest common divisor of two numbers.
func divisor(x, y int) int {
	for y != 0 {
		x, y = y, x%y
	}
	return max(x, -x)
}

// step returns how far from one point of the grid on the straight line from a to b
// the next one is, and how many such steps there are from a to b.
func step(a, b api.Point) (api.Point, int) {
	n := divisor(b.X-a.X, b.Y-a.Y)
	return at((b.X-a.X)/n, (b.Y-a.Y)/n), n
}

// onLine returns a point of the grid on a segment of a valid line, or on the
// straight line through it, but before or behind it.
func onLine(r *rand.Rand, a []api.Point, before, behind int) api.Point {
	i := r.Intn(len(a) - 1)
	by, n := step(a[i], a[i+1])
	k := r.Intn(n+1+before+behind) - before
	return inGrid(a[i].X+k*by.X, a[i].Y+k*by.Y)
}

// someWhere returns a point of the grid on a valid line, beside it, or far away.
func someWhere(r *rand.Rand, a []api.Point) api.Point {
	p := onLine(r, a, 3, 3)
	switch r.Intn(6) {
	case 0:
		return a[r.Intn(len(a))]
	case 1:
		return onLine(r, a, 0, 0)
	case 2:
		return p
	case 3:
		return inGrid(p.X+r.Intn(7)-3, p.Y+r.Intn(7)-3)
	case 4: // in the middle of two points of the line, which it may be as near to
		q := a[r.Intn(len(a))]
		return at((p.X+q.X)/2, (p.Y+q.Y)/2)
	}
	return anywhere(r, sizes[r.Intn(len(sizes))])
}

// mirrored returns a point, and a line two segments of which are as near to it,
// or hardly not.
func mirrored(r *rand.Rand, size int) ([]api.Point, api.Point) {
	for {
		p, a, b := anywhere(r, size), anywhere(r, size), anywhere(r, size)
		a.X, b.X = min(a.X, p.X), min(b.X, p.X)
		c, d := inGrid(2*p.X-b.X, b.Y), inGrid(2*p.X-a.X, a.Y)
		if r.Intn(3) == 0 {
			c = inGrid(c.X+r.Intn(3)-1, c.Y+r.Intn(3)-1)
		}
		if a != b && b != c && c != d {
			return []api.Point{a, b, c, d}, p
		}
	}
}

// damaged returns a line that is hardly not valid.
func damaged(r *rand.Rand, a []api.Point) []api.Point {
	i, list := r.Intn(len(a)), off()
	switch r.Intn(4) {
	case 0:
		return a[i : i+r.Intn(2)]
	case 1:
		return slices.Insert(slices.Clone(a), i, a[i])
	case 2:
		return with(a, i, list[r.Intn(len(list))])
	}
	b := slices.Clone(a)
	for len(b) <= most {
		b = append(b, back(b)[1:]...)
	}
	return b[:most+1]
}
