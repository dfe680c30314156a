package geom

import (
	"math/big"
	"math/rand"
	"testing"

	"gazetteer/api"
)

// The chapter's words written down once more, as directly as possible, with
// rational numbers of any size: places are a + t * (b - a). Nothing here is taken
// from the code under test.

// top is written out, so that a changed limit would be noticed.
const top = 32767

// place is a place of the plane, with rational coordinates.
type place struct{ x, y *big.Rat }

func num(n int) *big.Rat { return new(big.Rat).SetInt64(int64(n)) }

func plus(a, b *big.Rat) *big.Rat  { return new(big.Rat).Add(a, b) }
func minus(a, b *big.Rat) *big.Rat { return new(big.Rat).Sub(a, b) }
func times(a, b *big.Rat) *big.Rat { return new(big.Rat).Mul(a, b) }
func over(a, b *big.Rat) *big.Rat  { return new(big.Rat).Quo(a, b) }

// spot returns the place of a point.
func spot(p api.Point) place { return place{num(p.X), num(p.Y)} }

// after returns the place of the segment from a to b after the part t.
func after(t *big.Rat, a, b api.Point) place {
	u, v := spot(a), spot(b)
	return place{plus(u.x, times(t, minus(v.x, u.x))), plus(u.y, times(t, minus(v.y, u.y)))}
}

func same(u, v place) bool { return u.x.Cmp(v.x) == 0 && u.y.Cmp(v.y) == 0 }

// square returns the square of the distance of two places.
func square(u, v place) *big.Rat {
	x, y := minus(u.x, v.x), minus(u.y, v.y)
	return plus(times(x, x), times(y, y))
}

// specOn is what the chapter says of points on the grid.
func specOn(points ...api.Point) bool {
	for _, p := range points {
		for _, n := range []int{p.X, p.Y} {
			if n < 0 || n > 32767 {
				return false
			}
		}
	}
	return true
}

// specTurn is what G2 says of Turn.
func specTurn(a, b, c api.Point) int {
	if !specOn(a, b, c) {
		return 0
	}
	u, v, w := spot(a), spot(b), spot(c)
	return minus(times(minus(v.x, u.x), minus(w.y, u.y)), times(minus(v.y, u.y), minus(w.x, u.x))).Sign()
}

// specDist is what G2 says of Dist.
func specDist(a, b api.Point) int {
	if !specOn(a, b) {
		return 0
	}
	return int(square(spot(a), spot(b)).Num().Int64())
}

// part returns the part t of the segment from a to b after which a place comes,
// and whether there is one: t from 0 to 1, and 0 if a is b.
func part(u place, a, b api.Point) (*big.Rat, bool) {
	t := num(0)
	if x := num(b.X - a.X); x.Sign() != 0 {
		t = over(minus(u.x, num(a.X)), x)
	} else if y := num(b.Y - a.Y); y.Sign() != 0 {
		t = over(minus(u.y, num(a.Y)), y)
	}
	return t, t.Sign() >= 0 && t.Cmp(num(1)) <= 0 && same(u, after(t, a, b))
}

// specBetween is what G3 says of Between.
func specBetween(p, a, b api.Point) bool {
	if !specOn(p, a, b) {
		return false
	}
	_, is := part(spot(p), a, b)
	return is
}

// meet returns the only common place of the straight lines through a and b, and
// through c and d, and whether there is just one. By Cramer's rule.
func meet(a, b, c, d api.Point) (place, bool) {
	x, y := num(b.X-a.X), num(b.Y-a.Y)
	v, w := num(d.X-c.X), num(d.Y-c.Y)
	by := minus(times(x, w), times(y, v))
	if by.Sign() == 0 {
		return place{}, false
	}
	t := over(minus(times(num(c.X-a.X), w), times(num(c.Y-a.Y), v)), by)
	return after(t, a, b), true
}

// inside reports whether a place is inside the segment of two points.
func inside(u place, a, b api.Point) bool {
	_, is := part(u, a, b)
	return is && !same(u, spot(a)) && !same(u, spot(b))
}

// specCross is what G3 says of Cross. Segments on parallel lines, and segments
// of a point and itself, which have common places have one that is an end.
func specCross(a, b, c, d api.Point) int {
	if !specOn(a, b, c, d) {
		return 0
	}
	if u, one := meet(a, b, c, d); one {
		_, first := part(u, a, b)
		_, second := part(u, c, d)
		switch {
		case inside(u, a, b) && inside(u, c, d):
			return 2
		case first && second:
			return 1
		}
		return 0
	}
	if specBetween(a, c, d) || specBetween(b, c, d) || specBetween(c, a, b) || specBetween(d, a, b) {
		return 1
	}
	return 0
}

// least returns the part with the least square of the distance of p from its
// place: 0, 1, or where this square, p2 - 2 * t * pd + t * t * d2, is least.
func least(p, a, b api.Point) (*big.Rat, *big.Rat) {
	d2 := square(spot(a), spot(b))
	list := []*big.Rat{num(0)}
	if d2.Sign() != 0 {
		pd := plus(times(num(p.X-a.X), num(b.X-a.X)), times(num(p.Y-a.Y), num(b.Y-a.Y)))
		list = append(list, num(1), over(pd, d2))
	}
	var best, away *big.Rat
	for _, t := range list {
		if t.Sign() < 0 || t.Cmp(num(1)) > 0 {
			continue
		}
		if s := square(spot(p), after(t, a, b)); away == nil || s.Cmp(away) < 0 {
			best, away = t, s
		}
	}
	return best, away
}

// fr returns a rational number, which is in lowest terms.
func fr(r *big.Rat) api.Fraction {
	return api.Fraction{Num: int(r.Num().Int64()), Den: int(r.Denom().Int64())}
}

// specFoot is what G4 says of Foot.
func specFoot(p, a, b api.Point) (api.Fraction, api.Fraction, api.Errno) {
	if !specOn(p, a, b) {
		return api.Fraction{}, api.Fraction{}, api.ErrArg
	}
	t, away := least(p, a, b)
	return fr(t), fr(away), api.OK
}

// compareThree compares the functions of up to three points with the chapter.
func compareThree(t *testing.T, a, b, c api.Point) {
	t.Helper()
	if got, want := On(a), specOn(a); got != want {
		t.Fatalf("On of %v: %v, not %v", a, got, want)
	}
	if got, want := Turn(a, b, c), specTurn(a, b, c); got != want {
		t.Fatalf("Turn of %v, %v, %v: %v, not %v", a, b, c, got, want)
	}
	if got, want := Dist(a, b), specDist(a, b); got != want {
		t.Fatalf("Dist of %v, %v: %v, not %v", a, b, got, want)
	}
	if got, want := Between(a, b, c), specBetween(a, b, c); got != want {
		t.Fatalf("Between of %v, %v, %v: %v, not %v", a, b, c, got, want)
	}
	part, away, err := Foot(a, b, c)
	if wantPart, wantAway, wantErr := specFoot(a, b, c); part != wantPart || away != wantAway || err != wantErr {
		t.Fatalf("Foot of %v, %v, %v: %v, %v, %v, not %v, %v, %v", a, b, c, part, away, err, wantPart, wantAway, wantErr)
	}
}

// compareFour compares Cross with the chapter.
func compareFour(t *testing.T, a, b, c, d api.Point) {
	t.Helper()
	if got, want := Cross(a, b, c, d), specCross(a, b, c, d); got != want {
		t.Fatalf("Cross of %v, %v, %v, %v: %v, not %v", a, b, c, d, got, want)
	}
}

// grid returns the points whose coordinates are among these.
func grid(coordinates ...int) []api.Point {
	var list []api.Point
	for _, x := range coordinates {
		for _, y := range coordinates {
			list = append(list, at(x, y))
		}
	}
	return list
}

// corners are points at, before and beyond the limits, and at the middle.
func corners() []api.Point {
	return grid(-1, 0, 1, 16383, 16384, 32766, 32767, 32768)
}

// P7.1: three points in all places of a small part of the grid.
func TestSmallThree(t *testing.T) {
	list := grid(0, 1, 2, 3, 4)
	for _, a := range list {
		for _, b := range list {
			for _, c := range list {
				compareThree(t, a, b, c)
				compareThree(t, a, b, at(3*c.X, 2*c.Y))
			}
		}
	}
}

// P7.1: two segments in all places of a small part of the grid.
func TestSmallFour(t *testing.T) {
	list := grid(0, 1, 2, 3)
	for _, a := range list {
		for _, b := range list {
			for _, c := range list {
				for _, d := range list {
					compareFour(t, a, b, c, d)
				}
			}
		}
	}
}

// P7.1: points at the limits, and one beyond them.
func TestCorners(t *testing.T) {
	list := corners()
	for _, a := range list {
		for _, b := range list {
			for _, c := range list {
				compareThree(t, a, b, c)
			}
		}
	}
	r := rand.New(rand.NewSource(1))
	pick := func() api.Point { return list[r.Intn(len(list))] }
	for range 50000 {
		compareFour(t, pick(), pick(), pick(), pick())
	}
	list = grid(0, 1, 32766, 32767)
	for range 50000 {
		compareFour(t, pick(), pick(), pick(), pick())
	}
}

// P7.1: points of the whole grid, many of them on or near one straight line.
func TestRandom(t *testing.T) {
	r := rand.New(rand.NewSource(2))
	for range 10000 {
		a, b, c, d := anywhere(r), anywhere(r), anywhere(r), anywhere(r)
		compareThree(t, a, b, c)
		compareFour(t, a, b, c, d)
		l := aligned(r)
		compareThree(t, l[0], l[1], l[2])
		compareThree(t, l[0], l[1], near(r, l[2]))
		compareFour(t, l[0], l[1], l[2], l[3])
		compareFour(t, l[0], l[1], l[2], d)
		compareFour(t, l[0], l[1], near(r, l[2]), d)
		compareFour(t, l[0], l[1], near(r, l[2]), near(r, l[3]))
	}
}

// anywhere returns a point of the grid.
func anywhere(r *rand.Rand) api.Point { return at(r.Intn(top+1), r.Intn(top+1)) }

// aligned returns four points of one straight line, in any order.
func aligned(r *rand.Rand) [4]api.Point {
	for {
		size := 1 << r.Intn(15)
		by := at(r.Intn(2*size+1)-size, r.Intn(2*size+1)-size)
		if by == at(0, 0) {
			continue
		}
		most := top / max(by.X, -by.X, by.Y, -by.Y)
		p := anywhere(r)
		var l [4]api.Point
		for i := range l {
			n := r.Intn(2*most+1) - most
			l[i] = at(p.X+n*by.X, p.Y+n*by.Y)
		}
		if specOn(l[:]...) {
			return l
		}
	}
}

// near returns a point of the grid beside another one, or this one.
func near(r *rand.Rand, p api.Point) api.Point {
	for {
		if q := at(p.X+r.Intn(3)-1, p.Y+r.Intn(3)-1); specOn(q) {
			return q
		}
	}
}
