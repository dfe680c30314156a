package geom

import (
	"math"
	"testing"

	"gazetteer/api"
)

func at(x, y int) api.Point { return api.Point{X: x, Y: y} }

// terms returns the fraction with these terms.
func terms(num, den int) api.Fraction { return api.Fraction{Num: num, Den: den} }

// G1: both limits of both coordinates, and one less and one more.
func TestOn(t *testing.T) {
	for _, x := range []struct {
		p    api.Point
		want bool
	}{
		{at(0, 0), true}, {at(32767, 32767), true}, {at(0, 32767), true}, {at(32767, 0), true}, {at(12, 345), true},
		{at(1, 32766), true}, {at(32766, 1), true},
		{at(-1, 0), false}, {at(0, -1), false}, {at(32768, 0), false}, {at(0, 32768), false},
		{at(-1, 32768), false}, {at(5, 65536), false}, {at(1<<32, 5), false}, {at(5, -1<<32), false},
		{at(math.MinInt, 0), false}, {at(0, math.MaxInt), false},
	} {
		if got := On(x.p); got != x.want {
			t.Errorf("On of %v: %v", x.p, got)
		}
	}
}

// G2: turns to both sides, no turn, and equal points.
func TestTurn(t *testing.T) {
	for _, x := range []struct {
		a, b, c api.Point
		want    int
	}{
		{at(0, 0), at(4, 0), at(2, 3), 1},
		{at(0, 0), at(4, 0), at(2, 0), 0},
		{at(0, 3), at(4, 3), at(2, 2), -1},
		{at(4, 3), at(0, 3), at(2, 2), 1},
		{at(1, 1), at(1, 5), at(0, 9), 1},
		{at(1, 1), at(1, 5), at(2, 0), -1},
		{at(1, 1), at(1, 5), at(1, 9), 0},
		{at(1, 1), at(3, 5), at(5, 9), 0},
		{at(1, 1), at(3, 5), at(5, 8), -1},
		{at(1, 1), at(3, 5), at(5, 10), 1},
		{at(5, 5), at(2, 2), at(9, 9), 0},
		// Two of the points are equal, or all of them.
		{at(3, 4), at(3, 4), at(9, 1), 0},
		{at(3, 4), at(9, 1), at(3, 4), 0},
		{at(3, 4), at(9, 1), at(9, 1), 0},
		{at(3, 4), at(3, 4), at(3, 4), 0},
		// The greatest turns, and the least ones of the greatest segments.
		{at(0, 0), at(32767, 0), at(32767, 32767), 1},
		{at(0, 0), at(0, 32767), at(32767, 32767), -1},
		{at(0, 0), at(32767, 32766), at(32766, 32765), -1},
		{at(0, 0), at(32766, 32765), at(32767, 32766), 1},
		{at(32767, 32767), at(0, 1), at(1, 2), -1},
		{at(0, 32767), at(32767, 0), at(16384, 16383), 0},
		{at(0, 32767), at(32767, 0), at(16384, 16384), 1},
		{at(0, 32767), at(32767, 0), at(16383, 16383), -1},
	} {
		if got := Turn(x.a, x.b, x.c); got != x.want {
			t.Errorf("Turn of %v, %v, %v: %v", x.a, x.b, x.c, got)
		}
	}
}

// G2: distances up to that of opposite corners.
func TestDist(t *testing.T) {
	for _, x := range []struct {
		a, b api.Point
		want int
	}{
		{at(0, 0), at(3, 4), 25},
		{at(3, 4), at(0, 0), 25},
		{at(0, 4), at(3, 0), 25},
		{at(7, 9), at(7, 9), 0},
		{at(7, 9), at(7, 10), 1},
		{at(7, 9), at(6, 9), 1},
		{at(7, 9), at(8, 8), 2},
		{at(0, 0), at(0, 32767), 1073676289},
		{at(32767, 5), at(0, 5), 1073676289},
		{at(0, 0), at(32767, 32767), 2147352578},
		{at(0, 32767), at(32767, 0), 2147352578},
	} {
		if got := Dist(x.a, x.b); got != x.want {
			t.Errorf("Dist of %v, %v: %v", x.a, x.b, got)
		}
	}
}

// G3: points on the segment, on its straight line only, beside it, and the
// segment of a point and itself.
func TestBetween(t *testing.T) {
	for _, x := range []struct {
		p, a, b api.Point
		want    bool
	}{
		{at(2, 2), at(0, 0), at(4, 4), true},
		{at(0, 0), at(0, 0), at(4, 4), true},
		{at(4, 4), at(0, 0), at(4, 4), true},
		{at(5, 5), at(0, 0), at(4, 4), false},
		{at(0, 0), at(1, 1), at(4, 4), false},
		{at(2, 3), at(0, 0), at(4, 4), false},
		{at(2, 1), at(0, 0), at(4, 4), false},
		{at(3, 5), at(3, 2), at(3, 9), true},
		{at(3, 1), at(3, 2), at(3, 9), false},
		{at(3, 10), at(3, 2), at(3, 9), false},
		{at(4, 5), at(3, 2), at(3, 9), false},
		{at(5, 3), at(2, 3), at(9, 3), true},
		{at(1, 3), at(2, 3), at(9, 3), false},
		{at(10, 3), at(2, 3), at(9, 3), false},
		{at(3, 3), at(3, 3), at(3, 3), true},
		{at(3, 4), at(3, 3), at(3, 3), false},
		{at(2, 3), at(3, 3), at(3, 3), false},
		{at(0, 0), at(3, 3), at(3, 3), false},
		{at(16384, 16383), at(0, 32767), at(32767, 0), true},
		{at(16384, 16384), at(0, 32767), at(32767, 0), false},
		{at(32766, 32765), at(0, 0), at(32767, 32766), false},
		{at(32767, 32767), at(0, 0), at(32766, 32766), false},
		{at(32766, 32766), at(0, 0), at(32767, 32767), true},
	} {
		for _, got := range []bool{Between(x.p, x.a, x.b), Between(x.p, x.b, x.a)} {
			if got != x.want {
				t.Errorf("Between of %v, %v, %v: %v", x.p, x.a, x.b, got)
			}
		}
	}
}

// crossings are two segments each, and what Cross says of them.
var crossings = []struct {
	a, b, c, d api.Point
	want       int
}{
	// They cross.
	{at(0, 0), at(4, 4), at(0, 4), at(4, 0), 2},
	{at(0, 2), at(4, 2), at(2, 0), at(2, 9), 2},
	{at(0, 0), at(3, 1), at(1, 1), at(2, 0), 2},
	{at(0, 0), at(32767, 32767), at(0, 32767), at(32767, 0), 2},
	{at(0, 0), at(32767, 32766), at(32766, 32766), at(32767, 32765), 2},
	// They touch at an end of one, or of both.
	{at(0, 0), at(4, 0), at(2, 0), at(2, 5), 1},
	{at(0, 0), at(4, 0), at(4, 0), at(2, 5), 1},
	{at(0, 0), at(4, 0), at(0, 0), at(2, 5), 1},
	{at(0, 0), at(4, 4), at(2, 2), at(9, 0), 1},
	{at(0, 0), at(4, 4), at(4, 4), at(9, 0), 1},
	// They are on one straight line: they touch, overlap, lie in one another, are
	// equal, or have nothing in common.
	{at(0, 0), at(4, 0), at(4, 0), at(9, 0), 1},
	{at(0, 0), at(4, 0), at(2, 0), at(9, 0), 1},
	{at(0, 0), at(9, 0), at(2, 0), at(4, 0), 1},
	{at(0, 0), at(9, 0), at(0, 0), at(4, 0), 1},
	{at(0, 0), at(6, 3), at(2, 1), at(8, 4), 1},
	{at(1, 2), at(5, 6), at(1, 2), at(5, 6), 1},
	{at(0, 0), at(4, 0), at(5, 0), at(9, 0), 0},
	{at(0, 0), at(4, 4), at(5, 5), at(9, 9), 0},
	{at(3, 0), at(3, 4), at(3, 5), at(3, 9), 0},
	// They are parallel.
	{at(0, 0), at(4, 4), at(1, 0), at(5, 4), 0},
	{at(0, 0), at(4, 0), at(0, 1), at(4, 1), 0},
	{at(0, 0), at(0, 4), at(1, 4), at(1, 0), 0},
	// Both straight lines meet, but one segment, or both, end before.
	{at(0, 0), at(4, 4), at(3, 2), at(9, 0), 0},
	{at(0, 0), at(4, 0), at(2, 1), at(2, 5), 0},
	{at(0, 0), at(4, 0), at(5, 0), at(5, 5), 0},
	{at(0, 0), at(4, 4), at(0, 4), at(4, 9), 0},
	{at(0, 0), at(4, 4), at(0, 9), at(9, 1), 0},
	{at(0, 0), at(32767, 32767), at(32766, 32767), at(0, 1), 0},
	// One of them, or both, is the segment of a point and itself.
	{at(2, 2), at(2, 2), at(0, 0), at(4, 4), 1},
	{at(4, 4), at(4, 4), at(0, 0), at(4, 4), 1},
	{at(5, 5), at(5, 5), at(0, 0), at(4, 4), 0},
	{at(2, 3), at(2, 3), at(0, 0), at(4, 4), 0},
	{at(2, 2), at(2, 2), at(2, 2), at(2, 2), 1},
	{at(2, 2), at(2, 2), at(3, 3), at(3, 3), 0},
}

// G3: all ways in which segments may lie, in all orders.
func TestCross(t *testing.T) {
	for _, x := range crossings {
		for i, got := range eight(x.a, x.b, x.c, x.d) {
			if got != x.want {
				t.Errorf("Cross of %v, %v, %v, %v in the order %v: %v", x.a, x.b, x.c, x.d, i, got)
			}
		}
	}
}

// eight returns what Cross says of two segments in all their orders.
func eight(a, b, c, d api.Point) []int {
	return []int{
		Cross(a, b, c, d), Cross(b, a, c, d), Cross(a, b, d, c), Cross(b, a, d, c),
		Cross(c, d, a, b), Cross(d, c, a, b), Cross(c, d, b, a), Cross(d, c, b, a),
	}
}

// G4: feet before the first point, behind the last one, at both, and inside.
func TestFoot(t *testing.T) {
	for _, x := range []struct {
		p, a, b    api.Point
		part, away api.Fraction
	}{
		{at(1, 1), at(0, 0), at(3, 0), terms(1, 3), terms(1, 1)},
		{at(0, 1), at(0, 0), at(1, 1), terms(1, 2), terms(1, 2)},
		{at(9, 2), at(0, 0), at(3, 0), terms(1, 1), terms(40, 1)},
		{at(0, 2), at(3, 0), at(6, 0), terms(0, 1), terms(13, 1)},
		{at(4, 2), at(3, 0), at(3, 9), terms(2, 9), terms(1, 1)},
		// Above an end, at an end, and one before and behind it.
		{at(3, 7), at(3, 2), at(8, 2), terms(0, 1), terms(25, 1)},
		{at(8, 7), at(3, 2), at(8, 2), terms(1, 1), terms(25, 1)},
		{at(2, 7), at(3, 2), at(8, 2), terms(0, 1), terms(26, 1)},
		{at(9, 7), at(3, 2), at(8, 2), terms(1, 1), terms(26, 1)},
		{at(4, 7), at(3, 2), at(8, 2), terms(1, 5), terms(25, 1)},
		{at(7, 7), at(3, 2), at(8, 2), terms(4, 5), terms(25, 1)},
		{at(3, 2), at(3, 2), at(8, 2), terms(0, 1), terms(0, 1)},
		{at(8, 2), at(3, 2), at(8, 2), terms(1, 1), terms(0, 1)},
		// On the straight line, on the segment and not.
		{at(5, 2), at(3, 2), at(8, 2), terms(2, 5), terms(0, 1)},
		{at(1, 2), at(3, 2), at(8, 2), terms(0, 1), terms(4, 1)},
		{at(9, 2), at(3, 2), at(8, 2), terms(1, 1), terms(1, 1)},
		// The segment of a point and itself.
		{at(1, 1), at(3, 0), at(3, 0), terms(0, 1), terms(5, 1)},
		{at(3, 0), at(3, 0), at(3, 0), terms(0, 1), terms(0, 1)},
		// Parts and distances that are divided: 8/16, 16/20 and 180/20, 10/50 and 100/50.
		{at(2, 2), at(0, 0), at(4, 0), terms(1, 2), terms(4, 1)},
		{at(0, 5), at(0, 0), at(6, 8), terms(2, 5), terms(9, 1)},
		{at(2, 0), at(0, 0), at(3, 5), terms(3, 17), terms(50, 17)},
		{at(0, 2), at(0, 0), at(5, 5), terms(1, 5), terms(2, 1)},
		// The greatest turn, and what is hardly not on the segment.
		{at(0, 32767), at(0, 0), at(32767, 32767), terms(1, 2), terms(1073676289, 2)},
		{at(32767, 0), at(32767, 32767), at(0, 0), terms(1, 2), terms(1073676289, 2)},
		{at(0, 32767), at(0, 0), at(32767, 0), terms(0, 1), terms(1073676289, 1)},
		{at(32767, 32767), at(0, 0), at(32767, 0), terms(1, 1), terms(1073676289, 1)},
		{at(0, 0), at(0, 0), at(32767, 32767), terms(0, 1), terms(0, 1)},
		{at(1, 1), at(0, 0), at(32767, 32766), terms(65533, 2147287045), terms(1, 2147287045)},
		{at(32766, 32765), at(0, 0), at(32767, 32766), terms(2147221512, 2147287045), terms(1, 2147287045)},
	} {
		part, away, err := Foot(x.p, x.a, x.b)
		if part != x.part || away != x.away || err != api.OK {
			t.Errorf("Foot of %v, %v, %v: %v, %v, %v", x.p, x.a, x.b, part, away, err)
		}
	}
}

// beyond returns points that are not on the grid, but for which a function that
// did not check them, or only some of their bits, would have a result.
func beyond() []api.Point {
	var list []api.Point
	for _, n := range []int{-1, 32768, -2, -32768, 32769, 65536, 1 << 31, 1 << 32, -1 << 32, 1<<32 + 2, math.MaxInt, math.MinInt, math.MinInt + 1} {
		list = append(list, at(n, 0), at(0, n), at(n, 32767), at(32767, n), at(n, n), at(n, -n))
	}
	return list
}

// G2 to G4: a point that is not on the grid, at each place, with all others on
// the grid, equal to it, or on one straight line with it.
func TestBeyond(t *testing.T) {
	for _, p := range beyond() {
		if On(p) {
			t.Errorf("On of %v", p)
		}
		for _, a := range []api.Point{at(0, 0), at(5, 9), at(32767, 32767), at(0, 32767), p, at(p.X/2, p.Y/2), at(p.X-p.X/8, p.Y-p.Y/8)} {
			for _, b := range []api.Point{at(0, 0), at(7, 2), at(32767, 0), p, a} {
				for _, l := range [][3]api.Point{{p, a, b}, {a, p, b}, {a, b, p}} {
					zero(t, l[0], l[1], l[2])
				}
				if Dist(p, a) != 0 || Dist(a, p) != 0 {
					t.Errorf("Dist of %v, %v", p, a)
				}
				for _, c := range []api.Point{at(0, 0), at(8, 8), p, b} {
					for i, got := range append(eight(p, a, b, c), eight(p, b, a, c)...) {
						if got != 0 {
							t.Errorf("Cross of %v, %v, %v, %v in the order %v: %v", p, a, b, c, i, got)
						}
					}
				}
			}
		}
	}
}

// zero checks that functions of three points have nothing to say of them.
func zero(t *testing.T, a, b, c api.Point) {
	t.Helper()
	if got := Turn(a, b, c); got != 0 {
		t.Errorf("Turn of %v, %v, %v: %v", a, b, c, got)
	}
	if Between(a, b, c) {
		t.Errorf("Between of %v, %v, %v", a, b, c)
	}
	part, away, err := Foot(a, b, c)
	if part != (api.Fraction{}) || away != (api.Fraction{}) || err != api.ErrArg {
		t.Errorf("Foot of %v, %v, %v: %v, %v, %v", a, b, c, part, away, err)
	}
}

// G1 to G4: one more, or one less, than a limit at each place, where the same
// call has a result if this point is moved back to the limit.
func TestOneBeyond(t *testing.T) {
	const most = 32767
	if Turn(at(0, 0), at(4, 0), at(2, most)) != 1 || Turn(at(0, 0), at(4, 0), at(2, most+1)) != 0 {
		t.Error("Turn: the last point")
	}
	if Turn(at(0, 0), at(most, 0), at(2, 2)) != 1 || Turn(at(0, 0), at(most+1, 0), at(2, 2)) != 0 {
		t.Error("Turn: the second point")
	}
	if Turn(at(0, 0), at(4, 0), at(2, 2)) != 1 || Turn(at(-1, 0), at(4, 0), at(2, 2)) != 0 {
		t.Error("Turn: the first point")
	}
	if Dist(at(0, 0), at(4, 0)) != 16 || Dist(at(0, -1), at(4, 0)) != 0 {
		t.Error("Dist: the first point")
	}
	if Dist(at(0, 0), at(0, most)) != most*most || Dist(at(0, 0), at(0, most+1)) != 0 {
		t.Error("Dist: the second point")
	}
	if !Between(at(most, 0), at(0, 0), at(most, 0)) || Between(at(most+1, 0), at(0, 0), at(most, 0)) || Between(at(most, 0), at(0, 0), at(most+1, 0)) {
		t.Error("Between: the first and the last point")
	}
	if !Between(at(3, 0), at(0, 0), at(most, 0)) || Between(at(3, 0), at(-1, 0), at(most, 0)) {
		t.Error("Between: the second point")
	}
	for i, got := range []int{
		Cross(at(0, 0), at(9, 9), at(0, 9), at(9, 0)),
		Cross(at(-1, -1), at(9, 9), at(0, 9), at(9, 0)),
		Cross(at(0, 0), at(most+1, most+1), at(0, 9), at(9, 0)),
		Cross(at(0, 0), at(9, 9), at(-1, 10), at(9, 0)),
		Cross(at(0, 0), at(9, 9), at(0, 9), at(10, -1)),
	} {
		if want := 2; i == 0 && got != want || i > 0 && got != 0 {
			t.Errorf("Cross: the point %v beyond: %v", i, got)
		}
	}
	for _, l := range [][3]api.Point{{at(2, -1), at(0, 0), at(4, 0)}, {at(2, 2), at(-1, 0), at(4, 0)}, {at(2, 2), at(0, 0), at(most+1, 0)}} {
		zero(t, l[0], l[1], l[2])
	}
}
