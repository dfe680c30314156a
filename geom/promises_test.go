package geom

import (
	"math/big"
	"math/rand"
	"testing"

	"gazetteer/api"
	"gazetteer/fraction"
)

// threes passes on three points of the grid each: all of a small part of it,
// those at its corners, random ones, and ones that are on, or near, one straight
// line.
func threes(check func(a, b, c api.Point)) {
	for _, list := range [][]api.Point{grid(0, 1, 2, 3, 4), grid(0, 1, 16384, 32766, 32767)} {
		for _, a := range list {
			for _, b := range list {
				for _, c := range list {
					check(a, b, c)
				}
			}
		}
	}
	r := rand.New(rand.NewSource(3))
	for range 20000 {
		check(anywhere(r), anywhere(r), anywhere(r))
		l := aligned(r)
		check(l[0], l[1], l[2])
		check(l[0], l[1], near(r, l[2]))
		check(l[0], near(r, l[0]), l[2])
	}
}

// fours passes on four points of the grid each, chosen as those of threes.
func fours(check func(a, b, c, d api.Point)) {
	r := rand.New(rand.NewSource(4))
	small, great := grid(0, 1, 2, 3), grid(0, 1, 16383, 16384, 32766, 32767)
	pick := func(list []api.Point) api.Point { return list[r.Intn(len(list))] }
	for range 30000 {
		check(pick(small), pick(small), pick(small), pick(small))
		check(pick(great), pick(great), pick(great), pick(great))
		check(anywhere(r), anywhere(r), anywhere(r), anywhere(r))
		l := aligned(r)
		check(l[0], l[1], l[2], l[3])
		check(l[0], l[1], l[2], anywhere(r))
		check(l[0], l[1], near(r, l[2]), near(r, l[3]))
	}
}

// P7.2
func TestTurns(t *testing.T) {
	threes(func(a, b, c api.Point) {
		turn := Turn(a, b, c)
		if turn < -1 || turn > 1 {
			t.Fatalf("%v, %v, %v: %v", a, b, c, turn)
		}
		if Turn(b, c, a) != turn || Turn(c, a, b) != turn {
			t.Fatalf("%v, %v, %v: not the same turn from the next point on", a, b, c)
		}
		if Turn(b, a, c) != -turn || Turn(a, c, b) != -turn || Turn(c, b, a) != -turn {
			t.Fatalf("%v, %v, %v: not the other turn with two points exchanged", a, b, c)
		}
	})
}

// beyondSum reports whether the root of x is greater than those of y and z
// together: whether x - y - z is greater than twice the root of y * z.
func beyondSum(x, y, z int) bool {
	left := x - y - z
	if left <= 0 {
		return false
	}
	n := big.NewInt(int64(left))
	m := big.NewInt(int64(y))
	m.Mul(m, big.NewInt(int64(4*z)))
	return n.Mul(n, n).Cmp(m) > 0
}

// P7.3: Dist returns squares, but it is the distances that are at most the sum.
func TestDistances(t *testing.T) {
	threes(func(a, b, c api.Point) {
		d := Dist(a, b)
		if d < 0 || Dist(b, a) != d {
			t.Fatalf("%v, %v: %v, and %v back", a, b, d, Dist(b, a))
		}
		if (d == 0) != (a == b) {
			t.Fatalf("%v, %v: %v", a, b, d)
		}
		if beyondSum(d, Dist(a, c), Dist(c, b)) {
			t.Fatalf("%v, %v: a shorter way by %v", a, b, c)
		}
	})
}

// P7.4
func TestPlaces(t *testing.T) {
	threes(func(p, a, b api.Point) {
		want := Turn(a, b, p) == 0 && Dist(p, a)+Dist(p, b) <= Dist(a, b)
		if Between(p, a, b) != want || Between(p, b, a) != want {
			t.Fatalf("%v, %v, %v: not %v", p, a, b, want)
		}
	})
}

// P7.5
func TestTwoSegments(t *testing.T) {
	counts := map[int]int{}
	fours(func(a, b, c, d api.Point) {
		got := Cross(a, b, c, d)
		counts[got]++
		sides := Turn(a, b, c)*Turn(a, b, d) == -1 && Turn(c, d, a)*Turn(c, d, b) == -1
		if (got == 2) != sides {
			t.Fatalf("%v, %v, %v, %v: %v", a, b, c, d, got)
		}
		end := Between(a, c, d) || Between(b, c, d) || Between(c, a, b) || Between(d, a, b)
		if (got == 1) != end || got < 0 || got > 2 {
			t.Fatalf("%v, %v, %v, %v: %v", a, b, c, d, got)
		}
		for i, other := range eight(a, b, c, d) {
			if other != got {
				t.Fatalf("%v, %v, %v, %v: %v, but %v in the order %v", a, b, c, d, got, other, i)
			}
		}
	})
	for _, n := range []int{0, 1, 2} {
		if counts[n] < 1000 {
			t.Errorf("only %v times %v", counts[n], n)
		}
	}
}

// order compares two fractions.
func order(t *testing.T, f, g api.Fraction) int {
	t.Helper()
	n, err := fraction.Compare(f, g)
	if err != api.OK {
		t.Fatalf("%v, %v: %v", f, g, err)
	}
	return n
}

// foot returns what Foot says of points that are on the grid.
func foot(t *testing.T, p, a, b api.Point) (api.Fraction, api.Fraction) {
	t.Helper()
	part, away, err := Foot(p, a, b)
	if err != api.OK || !fraction.Valid(part) || !fraction.Valid(away) {
		t.Fatalf("%v, %v, %v: %v, %v, %v", p, a, b, part, away, err)
	}
	return part, away
}

// P7.6: a distance is at most both others if it is at most the less of them.
func TestFeet(t *testing.T) {
	none, all := terms(0, 1), terms(1, 1)
	threes(func(p, a, b api.Point) {
		part, away := foot(t, p, a, b)
		first, last := terms(Dist(p, a), 1), terms(Dist(p, b), 1)
		if order(t, part, none) < 0 || order(t, part, all) > 0 {
			t.Fatalf("%v, %v, %v: the part %v", p, a, b, part)
		}
		if order(t, away, first) > 0 || order(t, away, last) > 0 {
			t.Fatalf("%v, %v, %v: the distance %v", p, a, b, away)
		}
		if (away == none) != Between(p, a, b) {
			t.Fatalf("%v, %v, %v: the distance %v", p, a, b, away)
		}
		if part == none && away != first || part == all && away != last {
			t.Fatalf("%v, %v, %v: the distance %v after the part %v", p, a, b, away, part)
		}
		back, same := foot(t, p, b, a)
		sum, err := fraction.Add(part, back)
		if same != away || err != api.OK || sum != all && a != b || sum != none && a == b {
			t.Fatalf("%v, %v, %v: the parts %v and %v, the distances %v and %v", p, a, b, part, back, away, same)
		}
	})
}

// divisor returns the greatest common divisor of two numbers.
func divisor(x, y int) int {
	for y != 0 {
		x, y = y, x%y
	}
	return max(x, -x)
}

// points returns points of the grid that are on a segment: all of them, or, if
// they are many, those at both ends and around the place after a part.
func points(a, b api.Point, part api.Fraction) []api.Point {
	n := divisor(b.X-a.X, b.Y-a.Y)
	if n == 0 {
		return []api.Point{a}
	}
	middle := int(new(big.Int).Div(new(big.Int).Mul(big.NewInt(int64(part.Num)), big.NewInt(int64(n))), big.NewInt(int64(part.Den))).Int64())
	var list []api.Point
	for i := 0; i <= n; i++ {
		if i > 3 && i < n-3 && (i < middle-3 || i > middle+3) {
			continue
		}
		list = append(list, at(a.X+(b.X-a.X)/n*i, a.Y+(b.Y-a.Y)/n*i))
	}
	return list
}

// P7.7
func TestNearest(t *testing.T) {
	threes(func(p, a, b api.Point) {
		part, away := foot(t, p, a, b)
		for _, q := range points(a, b, part) {
			if !Between(q, a, b) {
				t.Fatalf("%v is not on the segment of %v, %v", q, a, b)
			}
			if order(t, terms(Dist(p, q), 1), away) < 0 {
				t.Fatalf("%v, %v, %v: %v is nearer than %v", p, a, b, q, away)
			}
		}
	})
}

// P7.7: of all points of a part of the grid, with each of them as p.
func TestNearestOfAll(t *testing.T) {
	list := grid(0, 1, 2, 3, 4, 5)
	for _, a := range list {
		for _, b := range list {
			for _, p := range list {
				_, away := foot(t, p, a, b)
				for _, q := range list {
					if Between(q, a, b) && order(t, terms(Dist(p, q), 1), away) < 0 {
						t.Fatalf("%v, %v, %v: %v is nearer than %v", p, a, b, q, away)
					}
				}
			}
		}
	}
}

// alike checks that nothing but the sign of Turn changes from three points to
// three others.
func alike(t *testing.T, l, m [3]api.Point, sign int) {
	t.Helper()
	if Turn(l[0], l[1], l[2]) != sign*Turn(m[0], m[1], m[2]) || Dist(l[0], l[1]) != Dist(m[0], m[1]) || Between(l[0], l[1], l[2]) != Between(m[0], m[1], m[2]) {
		t.Fatalf("%v, but %v", l, m)
	}
	part, away := foot(t, l[0], l[1], l[2])
	if otherPart, otherAway := foot(t, m[0], m[1], m[2]); part != otherPart || away != otherAway {
		t.Fatalf("%v, but %v: %v, %v, but %v, %v", l, m, part, away, otherPart, otherAway)
	}
}

// moved returns points of the grid, all moved by the same numbers, as far as
// they can be in this direction.
func moved(l []api.Point, right, up bool) []api.Point {
	least, greatest := l[0], l[0]
	for _, p := range l {
		least = at(min(least.X, p.X), min(least.Y, p.Y))
		greatest = at(max(greatest.X, p.X), max(greatest.Y, p.Y))
	}
	by := at(-least.X, -least.Y)
	if right {
		by.X = top - greatest.X
	}
	if up {
		by.Y = top - greatest.Y
	}
	var list []api.Point
	for _, p := range l {
		list = append(list, at(p.X+by.X, p.Y+by.Y))
	}
	return list
}

// exchanged returns a point with X and Y exchanged.
func exchanged(p api.Point) api.Point { return at(p.Y, p.X) }

// P7.8
func TestMovingThree(t *testing.T) {
	threes(func(a, b, c api.Point) {
		l := [3]api.Point{a, b, c}
		for i := range 4 {
			alike(t, l, [3]api.Point(moved(l[:], i&1 != 0, i&2 != 0)), 1)
		}
		alike(t, l, [3]api.Point{exchanged(a), exchanged(b), exchanged(c)}, -1)
	})
}

// P7.8
func TestMovingFour(t *testing.T) {
	fours(func(a, b, c, d api.Point) {
		want := Cross(a, b, c, d)
		for i := range 4 {
			m := moved([]api.Point{a, b, c, d}, i&1 != 0, i&2 != 0)
			if Cross(m[0], m[1], m[2], m[3]) != want {
				t.Fatalf("%v, %v, %v, %v, but %v", a, b, c, d, m)
			}
		}
		if Cross(exchanged(a), exchanged(b), exchanged(c), exchanged(d)) != want {
			t.Fatalf("%v, %v, %v, %v: not with X and Y exchanged", a, b, c, d)
		}
	})
}

// P1 and P3: equal arguments, on the grid or not, yield equal results, whatever
// was asked in between, and no call panics.
func TestAgain(t *testing.T) {
	type answer struct {
		on         bool
		turn, dist int
		between    bool
		cross      int
		part, away api.Fraction
		err        api.Errno
	}
	ask := func(a, b, c, d api.Point) answer {
		x := answer{on: On(a), turn: Turn(a, b, c), dist: Dist(a, b), between: Between(a, b, c), cross: Cross(a, b, c, d)}
		x.part, x.away, x.err = Foot(a, b, c)
		return x
	}
	list := append(beyond(), corners()...)
	r := rand.New(rand.NewSource(5))
	pick := func() api.Point { return list[r.Intn(len(list))] }
	var asked [][4]api.Point
	var answers []answer
	for range 20000 {
		l := [4]api.Point{pick(), pick(), pick(), pick()}
		asked, answers = append(asked, l), append(answers, ask(l[0], l[1], l[2], l[3]))
	}
	for i := len(asked) - 1; i >= 0; i-- {
		if l := asked[i]; ask(l[0], l[1], l[2], l[3]) != answers[i] {
			t.Fatalf("%v: not the same again", l)
		}
	}
}
