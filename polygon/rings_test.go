package polygon

import (
	"math/rand"
	"slices"

	"gazetteer/api"
)

// at returns the point with these coordinates.
func at(x, y int) api.Point { return api.Point{X: x, Y: y} }

// ring returns points from their coordinates.
func ring(l ...int) []api.Point {
	var list []api.Point
	for i := 0; i+1 < len(l); i += 2 {
		list = append(list, at(l[i], l[i+1]))
	}
	return list
}

// square returns the points whose coordinates are among these.
func square(coordinates ...int) []api.Point {
	var list []api.Point
	for _, x := range coordinates {
		for _, y := range coordinates {
			list = append(list, at(x, y))
		}
	}
	return list
}

// turned returns a ring that begins with another one of its points.
func turned(a []api.Point, by int) []api.Point {
	return append(slices.Clone(a[by:]), a[:by]...)
}

// back returns the points in the opposite order.
func back(a []api.Point) []api.Point {
	b := slices.Clone(a)
	slices.Reverse(b)
	return b
}

// with returns the points with another one at a place of the list.
func with(a []api.Point, i int, p api.Point) []api.Point {
	b := slices.Clone(a)
	b[i] = p
	return b
}

// comb returns a ring with teeth to the top: 4 points for each of them.
func comb(teeth, deep int) []api.Point {
	list := ring(0, 0, 4*teeth-2, 0)
	for i := range teeth {
		x := 4*(teeth-i) - 2
		list = append(list, at(x, deep), at(x-2, deep))
		if i < teeth-1 {
			list = append(list, at(x-2, 2), at(x-4, 2))
		}
	}
	return list
}

// sizes are the greatest coordinates of random rings.
var sizes = []int{3, 4, 6, 10, 100, top}

// grown returns a valid ring of at most n points with coordinates up to size: a
// triangle to which points are added, also at its own straight lines.
func grown(r *rand.Rand, size, n int) []api.Point {
	var a []api.Point
	for !Valid(a) {
		a = []api.Point{anywhere(r, size), anywhere(r, size), anywhere(r, size)}
	}
	for range 4 * n {
		if len(a) == n {
			break
		}
		b := slices.Insert(slices.Clone(a), r.Intn(len(a)+1), anywhere(r, size))
		if Valid(b) {
			a = b
		}
	}
	return a
}

// anywhere returns a point with coordinates up to size.
func anywhere(r *rand.Rand, size int) api.Point {
	return at(r.Intn(size+1), r.Intn(size+1))
}

// around returns a point of the grid beside another one, or this one.
func around(r *rand.Rand, p api.Point) api.Point {
	for {
		if q := at(p.X+r.Intn(3)-1, p.Y+r.Intn(3)-1); specOn(q) {
			return q
		}
	}
}

// divisor returns the greatest common divisor of two numbers.
func divisor(x, y int) int {
	for y != 0 {
		x, y = y, x%y
	}
	return max(x, -x)
}

// onSide returns a point of the grid on a side of a ring, or on its straight line
// one step before or behind it.
func onSide(r *rand.Rand, a []api.Point) api.Point {
	i := r.Intn(len(a))
	p, q := a[i], a[(i+1)%len(a)]
	n := max(1, divisor(q.X-p.X, q.Y-p.Y))
	k := r.Intn(n+3) - 1
	return at(p.X+(q.X-p.X)/n*k, p.Y+(q.Y-p.Y)/n*k)
}

// someWhere returns a point of the grid, or one beside it, of all kinds: on a side
// of a ring, at a corner, at the same height as a corner, beside them, or anywhere.
func someWhere(r *rand.Rand, a []api.Point) api.Point {
	p, q := a[r.Intn(len(a))], a[r.Intn(len(a))]
	switch r.Intn(7) {
	case 0:
		return p
	case 1:
		return at(p.X, q.Y)
	case 2:
		return around(r, p)
	case 3:
		return onSide(r, a)
	case 4:
		o := onSide(r, a)
		return at(o.X+r.Intn(3)-1, o.Y+r.Intn(3)-1)
	case 5:
		return at((p.X+q.X)/2, (p.Y+q.Y)/2)
	}
	size := 0
	for _, p := range a {
		size = max(size, p.X, p.Y)
	}
	return at(r.Intn(size+3)-1, r.Intn(size+3)-1)
}

// damaged returns a ring with one change.
func damaged(r *rand.Rand, a []api.Point) []api.Point {
	b := slices.Clone(a)
	i, j := r.Intn(len(b)), r.Intn(len(b))
	switch r.Intn(6) {
	case 0:
		b[i], b[j] = b[j], b[i]
	case 1:
		b[i] = around(r, b[i])
	case 2:
		return slices.Delete(b, i, i+1)
	case 3:
		slices.Reverse(b[min(i, j):max(i, j)])
	case 4:
		return slices.Insert(b, i, someWhere(r, a))
	default:
		b[i] = someWhere(r, a)
	}
	return b
}

// pair returns two valid rings with coordinates up to size: any, the second one
// the same but for a change, one of which the second one is a part, or two parts.
func pair(r *rand.Rand, size int) ([]api.Point, []api.Point) {
	a := grown(r, size, 4+r.Intn(12))
	b := grown(r, size, 3+r.Intn(8))
	switch r.Intn(4) {
	case 0:
		for range 20 {
			if c := damaged(r, a); Valid(c) {
				b = c
			}
		}
	case 1:
		if first, second, is := cut(r, a); is {
			return first, second
		}
	case 2:
		if first, _, is := cut(r, a); is {
			return first, a
		}
	}
	return a, b
}

// halves returns both lists of points into which the straight way from one point
// of a ring to another one divides it.
func halves(a []api.Point, i, j int) ([]api.Point, []api.Point) {
	i, j = min(i, j), max(i, j)
	return slices.Clone(a[i : j+1]), append(slices.Clone(a[j:]), a[:i+1]...)
}

// cut returns two valid rings into which a ring is divided, and whether there are
// any. They need not be within it.
func cut(r *rand.Rand, a []api.Point) ([]api.Point, []api.Point, bool) {
	for range 30 {
		b, c := halves(a, r.Intn(len(a)), r.Intn(len(a)))
		if Valid(b) && Valid(c) {
			return b, c, true
		}
	}
	return nil, nil, false
}
